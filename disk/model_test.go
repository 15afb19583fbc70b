package disk_test

import (
	"bytes"
	"math/rand/v2"
	"testing"

	"armarium/api"
	"armarium/disk"
)

// A modelWrite is a sector's number, and what it is to be.
type modelWrite struct {
	at   int
	text string
}

// A model is a disk as the chapter's words tell it: texts, a row of writes, and a fuse that is below 0 if there is none.
type model struct {
	onDisk []string
	waits  []modelWrite
	alive  bool
	fuse   int
	bits   string
	acts   uint64
}

func newModel(sectors int) *model {
	m := &model{alive: true, fuse: -1}
	for range sectors {
		m.onDisk = append(m.onDisk, string(make([]byte, api.Sector)))
	}
	return m
}

func (m *model) copied() *model {
	c := *m
	c.onDisk = append([]string{}, m.onDisk...)
	c.waits = append([]modelWrite{}, m.waits...)
	return &c
}

func (m *model) powerGoes(text string) {
	var bits []bool
	for _, x := range []byte(text) {
		for range 8 {
			bits = append(bits, x%2 == 1)
			x /= 2
		}
	}
	for i, w := range m.waits {
		if i < len(bits) && bits[i] {
			m.onDisk[w.at] = w.text
		}
	}
	m.waits, m.alive, m.fuse, m.bits = nil, false, -1, ""
}

func (m *model) act() api.Errno {
	if m.fuse == 0 {
		m.powerGoes(m.bits)
		return api.ErrDead
	}
	if m.fuse > 0 {
		m.fuse--
	}
	m.acts++
	return api.OK
}

func (m *model) read(at int) (string, api.Errno) {
	if !m.alive {
		return "", api.ErrDead
	}
	if at < 0 || at >= len(m.onDisk) {
		return "", api.ErrArg
	}
	now := m.onDisk[at]
	for _, w := range m.waits {
		if w.at == at {
			now = w.text
		}
	}
	return now, api.OK
}

func (m *model) write(at int, b []byte) api.Errno {
	if !m.alive {
		return api.ErrDead
	}
	if at < 0 || at >= len(m.onDisk) || len(b) != api.Sector {
		return api.ErrArg
	}
	if e := m.act(); e != api.OK {
		return e
	}
	m.waits = append(m.waits, modelWrite{at, string(b)})
	return api.OK
}

func (m *model) flush() api.Errno {
	if !m.alive {
		return api.ErrDead
	}
	if e := m.act(); e != api.OK {
		return e
	}
	for _, w := range m.waits {
		m.onDisk[w.at] = w.text
	}
	m.waits = nil
	return api.OK
}

func (m *model) setFuse(acts int, bits string) api.Errno {
	if acts < 0 {
		return api.ErrArg
	}
	m.fuse, m.bits = acts, bits
	return api.OK
}

func (m *model) crash(bits string) api.Errno {
	if !m.alive {
		return api.ErrDead
	}
	m.powerGoes(bits)
	return api.OK
}

func (m *model) start() api.Errno {
	m.alive = true
	return api.OK
}

// wantAlike fails unless all that can be asked of the disk is as the model has it.
func wantAlike(t *testing.T, d *disk.Disk, m *model) {
	t.Helper()
	if d.Len() != len(m.onDisk) || d.Alive() != m.alive || d.Waiting() != len(m.waits) || d.Acts() != m.acts {
		t.Fatalf("sectors %d, alive %v, waiting %d, acts %d; want %d, %v, %d, %d",
			d.Len(), d.Alive(), d.Waiting(), d.Acts(), len(m.onDisk), m.alive, len(m.waits), m.acts)
	}
	for at := -1; at <= len(m.onDisk); at++ {
		want, e := m.read(at)
		if got, err := d.Read(at); string(got) != want || err != e {
			t.Fatalf("sector %d is now %.9x, %v; want %.9x, %v", at, got, err, want, e)
		}
		raw := ""
		if at >= 0 && at < len(m.onDisk) {
			raw = m.onDisk[at]
		}
		if got := d.Raw(at); string(got) != raw {
			t.Fatalf("sector %d is on the disk %.9x; want %.9x", at, got, raw)
		}
	}
}

// A pair is a disk, and its model, to which the same is done.
type pair struct {
	d *disk.Disk
	m *model
}

func newPair(t *testing.T, sectors int) pair {
	t.Helper()
	d, e := disk.New(sectors)
	if e != api.OK {
		t.Fatal(e)
	}
	return pair{d, newModel(sectors)}
}

// do does what the numbers tell to both: they are bytes, so that a fuzzer finds its way among them.
func (p pair) do(t *testing.T, kind, x, y byte) {
	t.Helper()
	at := int(x)%(p.d.Len()+2) - 1
	bits := string([]byte{y, x ^ y, 255 - y}[:int(x)%4])
	var got, want api.Errno
	switch kind % 16 {
	case 0:
		got, want = p.d.Flush(), p.m.flush()
	case 1:
		got, want = p.d.Fuse(int(x%12)-1, bits), p.m.setFuse(int(x%12)-1, bits)
	case 2:
		got, want = p.d.Crash(bits), p.m.crash(bits)
	case 3, 4, 5:
		got, want = p.d.Start(), p.m.start()
	case 6:
		b := filled(y)[:api.Sector-int(x)%3]
		got, want = p.d.Write(at, b), p.m.write(at, b)
	default:
		b := filled(y)
		got, want = p.d.Write(at, b), p.m.write(at, b)
	}
	if got != want {
		t.Fatalf("act %d %d %d: %v; want %v", kind, x, y, got, want)
	}
}

// filled answers a sector whose bytes are all unlike their neighbours, so that none is at another's place unseen.
func filled(c byte) []byte {
	b := make([]byte, api.Sector)
	for i := range b {
		b[i] = c + byte(i) + byte(i/256)*17
	}
	return b
}

func TestRandomActsAreAsTheWordsTell(t *testing.T) {
	for seed := range uint64(100) {
		r := rand.New(rand.NewPCG(4, seed))
		all := []pair{newPair(t, 1+r.IntN(9))}
		for range 150 {
			p := all[r.IntN(len(all))]
			p.do(t, byte(r.Uint32()), byte(r.Uint32()), byte(r.Uint32()))
			if r.IntN(40) == 0 {
				all = append(all, pair{p.d.Copy(), p.m.copied()})
			}
			for _, p := range all {
				wantAlike(t, p.d, p.m)
			}
		}
	}
}

// P4.4: what was flushed stays till another write there; what is there is 0, or wholly what one write said.
func TestWhatWasFlushedStays(t *testing.T) {
	for seed := range uint64(200) {
		r := rand.New(rand.NewPCG(44, seed))
		d, _ := disk.New(6)
		flushed := map[int]byte{}
		later := map[int]map[byte]bool{}
		for c := byte(1); c < 100; c++ {
			d.Start()
			at := r.IntN(6)
			if r.IntN(6) == 0 {
				d.Fuse(r.IntN(9), string([]byte{byte(r.Uint32()), byte(r.Uint32())}))
			}
			if d.Write(at, bytes.Repeat([]byte{c}, api.Sector)) == api.OK {
				if later[at] == nil {
					later[at] = map[byte]bool{}
				}
				later[at][c] = true
			}
			if r.IntN(5) == 0 && d.Flush() == api.OK {
				for at := range later {
					flushed[at] = d.Raw(at)[0]
				}
				clear(later)
			}
			if r.IntN(8) == 0 {
				d.Crash(string([]byte{byte(r.Uint32())}))
			}
			for at := range 6 {
				b := d.Raw(at)
				if !bytes.Equal(b, bytes.Repeat(b[:1], api.Sector)) {
					t.Fatalf("the sector %d is torn", at)
				}
				if b[0] != flushed[at] && !later[at][b[0]] {
					t.Fatalf("the sector %d is %d; flushed was %d", at, b[0], flushed[at])
				}
			}
		}
	}
}

func FuzzDisk(f *testing.F) {
	f.Add([]byte{7, 1, 2, 1, 2, 3, 8, 2, 5, 0, 0, 0, 3, 0, 0})
	f.Fuzz(func(t *testing.T, acts []byte) {
		all := []pair{newPair(t, 5)}
		for ; len(acts) >= 3 && len(all) < 6; acts = acts[3:] {
			p := all[int(acts[0]/16)%len(all)]
			p.do(t, acts[0], acts[1], acts[2])
			if acts[2] == 77 {
				all = append(all, pair{p.d.Copy(), p.m.copied()})
			}
			for _, p := range all {
				wantAlike(t, p.d, p.m)
			}
		}
	})
}
