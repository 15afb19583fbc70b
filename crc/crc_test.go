package crc_test

import (
	"bytes"
	"encoding/binary"
	"hash/crc32"
	"math/rand/v2"
	"strings"
	"testing"

	"armarium/crc"
)

// wantSum fails unless that is the bytes' checksum, and Ok says so of it, and of none of its neighbours.
func wantSum(t *testing.T, b []byte, want uint32) {
	t.Helper()
	if got := crc.Sum(b); got != want {
		t.Errorf("%d bytes: %08x; want %08x", len(b), got, want)
	}
	if !crc.Ok(b, want) {
		t.Errorf("%d bytes: not ok with %08x", len(b), want)
	}
	for i := range 32 {
		if other := want ^ 1<<i; crc.Ok(b, other) {
			t.Errorf("%d bytes: ok with %08x; want %08x alone", len(b), other, want)
		}
	}
	if crc.Ok(b, ^want) || crc.Ok(b, want+1) || crc.Ok(b, want-1) {
		t.Errorf("%d bytes: ok with another number than %08x", len(b), want)
	}
}

func someBytes(r *rand.Rand, n int) []byte {
	b := make([]byte, n)
	for i := range b {
		b[i] = byte(r.Uint32())
	}
	return b
}

// division is the checksum as the chapter's first words tell it: the rest of a division of polynomials, bit by bit, the highest power first.
func division(b []byte) uint32 {
	var row []bool
	for _, x := range b {
		for i := range 8 {
			row = append(row, x>>i&1 == 1)
		}
	}
	row = append(row, make([]bool, 32)...)
	for i := range 32 {
		row[i] = !row[i]
	}
	for at := 0; at+32 < len(row); at++ {
		if !row[at] {
			continue
		}
		for _, power := range []int{32, 28, 27, 26, 25, 23, 22, 20, 19, 18, 14, 13, 11, 10, 9, 8, 6, 0} {
			row[at+32-power] = !row[at+32-power]
		}
	}
	var sum uint32
	for i, bit := range row[len(row)-32:] {
		if !bit {
			sum |= 1 << i
		}
	}
	return sum
}

// steps is the checksum as the chapter tells it step by step.
func steps(b []byte) uint32 {
	n := ^uint32(0)
	for _, x := range b {
		for i := range 8 {
			n ^= uint32(x >> i & 1)
			one := n&1 == 1
			n /= 2
			if one {
				n ^= 0x82f63b78
			}
		}
	}
	return ^n
}

// P2.1

func TestSumOfNothing(t *testing.T) {
	wantSum(t, nil, 0)
	wantSum(t, []byte{}, 0)
}

func TestSumExamplesOfTheChapter(t *testing.T) {
	wantSum(t, []byte(""), 0)
	wantSum(t, []byte("123456789"), 0xe3069283)
}

// The rows that RFC 3720 publishes (its section B.4), as numbers.
func TestSumOfKnownRows(t *testing.T) {
	rising, falling := make([]byte, 32), make([]byte, 32)
	for i := range rising {
		rising[i], falling[i] = byte(i), byte(31-i)
	}
	wantSum(t, make([]byte, 32), 0x8a9136aa)
	wantSum(t, bytes.Repeat([]byte{255}, 32), 0x62a8ab43)
	wantSum(t, rising, 0x46dd794e)
	wantSum(t, falling, 0x113fdb5c)
}

func TestSumOfEachSingleByte(t *testing.T) {
	for x := range 256 {
		b := []byte{byte(x)}
		wantSum(t, b, division(b))
		wantSum(t, b, steps(b))
	}
}

func TestSumOfEachTwoBytes(t *testing.T) {
	for x := range 1 << 16 {
		b := []byte{byte(x >> 8), byte(x)}
		if got, want := crc.Sum(b), steps(b); got != want {
			t.Fatalf("% x: %08x; want %08x", b, got, want)
		}
	}
}

// The first 32 bits are turned: rows of 3, 4 and 5 bytes are those that have fewer, just so many, and more.
func TestSumIsTheRestOfTheDivision(t *testing.T) {
	r := rand.New(rand.NewPCG(2, 1))
	for n := range 70 {
		for range 5 {
			b := someBytes(r, n)
			wantSum(t, b, division(b))
			wantSum(t, b, steps(b))
		}
		zeros, ones := make([]byte, n), bytes.Repeat([]byte{255}, n)
		wantSum(t, zeros, division(zeros))
		wantSum(t, ones, division(ones))
	}
}

func TestSumOfLongRows(t *testing.T) {
	r := rand.New(rand.NewPCG(2, 2))
	table := crc32.MakeTable(crc32.Castagnoli)
	for _, n := range []int{255, 256, 257, 511, 512, 513, 65535, 65536, 65537, 1 << 20} {
		b := someBytes(r, n)
		wantSum(t, b, crc32.Checksum(b, table))
	}
}

func TestSumOfLeadingAndTrailingZeros(t *testing.T) {
	seen := map[uint32]string{}
	for _, s := range []string{"", "\x00", "\x00\x00", "a", "\x00a", "a\x00", "\x00a\x00", "\x00\x00a"} {
		sum := crc.Sum([]byte(s))
		if other, ok := seen[sum]; ok {
			t.Errorf("%q and %q have one checksum", s, other)
		}
		seen[sum] = s
		wantSum(t, []byte(s), division([]byte(s)))
	}
}

func TestBytesHandedInAreNotChanged(t *testing.T) {
	b := []byte("123456789")
	crc.Sum(b)
	crc.Ok(b, 0)
	crc.Ok(b, 0xe3069283)
	if string(b) != "123456789" {
		t.Errorf("what was handed in became %q", b)
	}
}

// R2: neither what was asked before, nor what stands around the bytes, plays a part.
func TestSumHangsOnTheBytesAlone(t *testing.T) {
	for _, around := range []string{"\x00", "x", "\xff"} {
		row := []byte(strings.Repeat(around, 9) + "123456789" + strings.Repeat(around, 9))
		wantSum(t, row[9:18], 0xe3069283)
		wantSum(t, row[:0], 0)
		wantSum(t, row[18:18], 0)
	}
}

func TestSumAsksForTheBytesOfNow(t *testing.T) {
	b := []byte("123456789")
	wantSum(t, b, 0xe3069283)
	b[0] = '2'
	wantSum(t, b, division([]byte("223456789")))
	b[0] = '1'
	wantSum(t, b, 0xe3069283)
}

// P2.2

// turned is a copy of a row in which those bits are turned that the pattern tells, from the bit at on, each byte's lowest one first.
func turned(b []byte, at int, pattern uint32) []byte {
	other := bytes.Clone(b)
	for i := range 32 {
		if pattern>>i&1 == 1 {
			other[(at+i)/8] ^= 1 << ((at + i) % 8)
		}
	}
	return other
}

// wantUnlike fails if the row and the one with these bits turned have one checksum.
func wantUnlike(t *testing.T, b []byte, at int, pattern uint32) {
	t.Helper()
	other := turned(b, at, pattern)
	if sum := crc.Sum(b); crc.Sum(other) == sum || crc.Ok(other, sum) {
		t.Fatalf("bits %08x from %d on, of %d bytes, are turned unnoticed", pattern, at, len(b))
	}
}

func TestOneBitTurnedIsNoticed(t *testing.T) {
	r := rand.New(rand.NewPCG(2, 3))
	for _, n := range []int{1, 2, 3, 4, 5, 31, 512} {
		b := someBytes(r, n)
		for at := range 8 * n {
			wantUnlike(t, b, at, 1)
		}
	}
}

func TestThirtyTwoBitsSideBySideAreNoticed(t *testing.T) {
	r := rand.New(rand.NewPCG(2, 4))
	for _, n := range []int{4, 5, 8, 9, 64} {
		b := someBytes(r, n)
		for at := range 8*n - 31 {
			wantUnlike(t, b, at, 1<<32-1)
			wantUnlike(t, b, at, 1<<31|1)
			for range 50 {
				wantUnlike(t, b, at, r.Uint32()|1)
				wantUnlike(t, b, at, r.Uint32()|1<<31)
			}
		}
	}
}

// Rows of the 33 bits of the polynomial differ in one bit more than the promise allows, and their checksums are alike: so the polynomial is the one that the chapter names.
func TestThePolynomialIsNotNoticed(t *testing.T) {
	b := []byte("some bytes")
	for at := range 8*len(b) - 32 {
		other := bytes.Clone(b)
		for _, power := range []int{32, 28, 27, 26, 25, 23, 22, 20, 19, 18, 14, 13, 11, 10, 9, 8, 6, 0} {
			bit := at + 32 - power
			other[bit/8] ^= 1 << (bit % 8)
		}
		if crc.Sum(other) != crc.Sum(b) {
			t.Errorf("the polynomial from the bit %d on is noticed", at)
		}
	}
}

func TestSumOfBytesAndTheirSum(t *testing.T) {
	r := rand.New(rand.NewPCG(2, 5))
	for n := range 600 {
		b := someBytes(r, n)
		wantSum(t, binary.LittleEndian.AppendUint32(b, crc.Sum(b)), 0x48674bc7)
	}
	for _, s := range []string{"", "\x00", "\xff", "123456789"} {
		wantSum(t, binary.LittleEndian.AppendUint32([]byte(s), crc.Sum([]byte(s))), 0x48674bc7)
	}
}

func FuzzSum(f *testing.F) {
	f.Add([]byte(nil), uint32(0))
	f.Add([]byte("123456789"), uint32(0xe3069283))
	f.Fuzz(func(t *testing.T, b []byte, sum uint32) {
		want := division(b)
		wantSum(t, b, want)
		if crc.Ok(b, sum) != (sum == want) {
			t.Errorf("% x with %08x; want %08x", b, sum, want)
		}
	})
}
