package wal

import (
	"bytes"
	"strings"

	"armarium/api"
	"armarium/crc"
	"armarium/disk"
	"armarium/pack"
)

// heads is how many sectors heads have: the first ones of the disk. The log's are those behind.
const heads = 2

// sumWidth is as many bytes as a checksum has.
const sumWidth = 4

// A head says where a log begins.
type head struct {
	generation uint64
	first      uint64
	sectors    int
	note       string
	at         int // its sector, of which its bytes say nothing
}

func maySectors(n int) bool { return n >= api.MinLog && n <= api.MaxLog }

func mayNote(s string) bool { return len(s) <= NoteRoom }

// bytes is what a head's sector says.
func (h head) bytes() []byte {
	p := pack.New().Put(8, h.generation).Put(8, h.first).Put(2, uint64(h.sectors)).Name(h.note)
	said, _ := p.Bytes() // what a head has always goes in
	p.Text(strings.Repeat("\x00", api.Sector-sumWidth-len(said)))
	said, _ = p.Bytes()
	said, _ = p.Put(sumWidth, uint64(crc.Sum(said))).Bytes()
	return said
}

// headOf answers the head whose sector says that. What is read is put again, as a sector in which a single byte is another one is none's.
func headOf(at int, b []byte) (head, bool) {
	o := pack.Of(b)
	h := head{generation: o.Take(8), first: o.Take(8), sectors: int(o.Take(2)), note: o.Name(), at: at}
	if !maySectors(h.sectors) || !mayNote(h.note) || !bytes.Equal(b, h.bytes()) {
		return head{}, false
	}
	return h, true
}

// counting answers the head that counts. Where there is none, a zero one beside a false: what follows it is the generation 1, on the sector 1.
func counting(d *disk.Disk) (head, bool, api.Errno) {
	e := api.OK
	tell := func(at int) (head, bool) {
		if e != api.OK || at >= d.Len() {
			return head{}, false
		}
		var b []byte
		b, e = d.Read(at)
		return headOf(at, b)
	}
	h, ok := tell(0)
	if other, is := tell(1); is && (!ok || other.generation > h.generation) {
		h, ok = other, true
	}
	return h, ok, e
}

// follow answers the next generation's head. It takes the other sector, so that this one counts till it is written.
func (h head) follow(first uint64) head {
	h.generation++
	h.first = first
	h.at = heads - 1 - h.at
	return h
}

// write lets a head count.
func (h head) write(d *disk.Disk) api.Errno {
	if e := d.Write(h.at, h.bytes()); e != api.OK {
		return e
	}
	return d.Flush()
}
