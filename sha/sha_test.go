package sha_test

import (
	"bytes"
	"crypto/sha256"
	"encoding/hex"
	"math/big"
	"math/rand/v2"
	"strings"
	"testing"

	"armarium/api"
	"armarium/sha"
)

// wantHash fails unless the bytes' hash is that one, told in half bytes.
func wantHash(t *testing.T, b []byte, want string) {
	t.Helper()
	h := sha.Sum(b)
	if got := hex.EncodeToString(h[:]); got != strings.ReplaceAll(want, " ", "") {
		t.Errorf("%d bytes: %s; want %s", len(b), got, want)
	}
}

// wantAsTold fails unless the bytes' hash is what the chapter's words make of them.
func wantAsTold(t *testing.T, b []byte) {
	t.Helper()
	if got, want := sha.Sum(b), told(b); got != want {
		t.Errorf("%d bytes % x: %x; want %x", len(b), b[:min(len(b), 80)], got, want)
	}
}

func someBytes(r *rand.Rand, n int) []byte {
	b := make([]byte, n)
	for i := range b {
		b[i] = byte(r.Uint32())
	}
	return b
}

// rootFractions are the first 32 bits of the fractions of the first primes' square roots, or cube roots, by halving.
func rootFractions(count int, power int64) []uint32 {
	var all []uint32
	for n := int64(2); len(all) < count; n++ {
		if !big.NewInt(n).ProbablyPrime(0) {
			continue
		}
		goal := new(big.Int).Lsh(big.NewInt(n), uint(32*power))
		low, high := big.NewInt(0), new(big.Int).Lsh(big.NewInt(n), 32)
		for low.Cmp(high) < 0 {
			middle := new(big.Int).Add(low, high)
			middle.Add(middle, big.NewInt(1)).Rsh(middle, 1)
			if new(big.Int).Exp(middle, big.NewInt(power), nil).Cmp(goal) <= 0 {
				low = middle
			} else {
				high = middle.Sub(middle, big.NewInt(1))
			}
		}
		all = append(all, uint32(low.Uint64()))
	}
	return all
}

var (
	toldFirst     = rootFractions(8, 2)
	toldConstants = rootFractions(64, 3)
)

func rotr(n uint32, by int) uint32 { return n>>by | n<<(32-by) }

// told is the hash as the chapter's words tell it, one behind the other, with all of the 64 words of a block laid down.
func told(b []byte) api.Hash {
	row := append([]byte{}, b...)
	row = append(row, 128)
	for (len(row)+8)%64 != 0 {
		row = append(row, 0)
	}
	size := new(big.Int).Mul(big.NewInt(int64(len(b))), big.NewInt(8))
	row = append(row, size.FillBytes(make([]byte, 8))...)
	sums := append([]uint32{}, toldFirst...)
	for ; len(row) > 0; row = row[64:] {
		for i, n := range toldRounds(sums, toldWords(row[:64])) {
			sums[i] += n
		}
	}
	var hash api.Hash
	for i, n := range sums {
		hash[4*i], hash[4*i+1], hash[4*i+2], hash[4*i+3] = byte(n>>24), byte(n>>16), byte(n>>8), byte(n)
	}
	return hash
}

func toldWords(block []byte) [64]uint32 {
	var w [64]uint32
	for i := range 16 {
		w[i] = uint32(block[4*i])<<24 | uint32(block[4*i+1])<<16 | uint32(block[4*i+2])<<8 | uint32(block[4*i+3])
	}
	for i := 16; i < 64; i++ {
		s0 := rotr(w[i-15], 7) ^ rotr(w[i-15], 18) ^ w[i-15]>>3
		s1 := rotr(w[i-2], 17) ^ rotr(w[i-2], 19) ^ w[i-2]>>10
		w[i] = w[i-16] + s0 + w[i-7] + s1
	}
	return w
}

func toldRounds(sums []uint32, w [64]uint32) [8]uint32 {
	var s [8]uint32
	copy(s[:], sums)
	for i := range 64 {
		a, b, c, d, e, f, g, h := s[0], s[1], s[2], s[3], s[4], s[5], s[6], s[7]
		t1 := h + (rotr(e, 6) ^ rotr(e, 11) ^ rotr(e, 25)) + (e&f ^ (^e)&g) + toldConstants[i] + w[i]
		t2 := (rotr(a, 2) ^ rotr(a, 13) ^ rotr(a, 22)) + (a&b ^ a&c ^ b&c)
		s = [8]uint32{t1 + t2, a, b, c, d + t1, e, f, g}
	}
	return s
}

// P3.1

func TestSumExampleOfTheChapter(t *testing.T) {
	wantHash(t, []byte("abc"), "ba7816bf 8f01cfea 414140de 5dae2223 b00361a3 96177a9c b410ff61 f20015ad")
}

func TestSumOfNothing(t *testing.T) {
	const want = "e3b0c442 98fc1c14 9afbf4c8 996fb924 27ae41e4 649b934c a495991b 7852b855"
	wantHash(t, nil, want)
	wantHash(t, []byte{}, want)
}

func TestSumOfEachSingleByte(t *testing.T) {
	for x := range 256 {
		wantAsTold(t, []byte{byte(x)})
	}
}

// All lengths up to five blocks: among them those at which the length no longer goes into the last block (56, 120, ..), and those at which the byte 128 begins a block of its own (64, 128, ..).
func TestSumOfEachLength(t *testing.T) {
	r := rand.New(rand.NewPCG(3, 1))
	for n := range 5*64 + 1 {
		wantAsTold(t, someBytes(r, n))
		wantAsTold(t, make([]byte, n))
		wantAsTold(t, bytes.Repeat([]byte{128}, n))
		wantAsTold(t, bytes.Repeat([]byte{255}, n))
	}
}

// Words that differ in one bit only show that each of a block's bits is taken in at its own place.
func TestSumOfEachBitOfTwoBlocks(t *testing.T) {
	seen := map[api.Hash]int{}
	for n := range 2 * 64 * 8 {
		b := make([]byte, 2*64)
		b[n/8] = 1 << (n % 8)
		wantAsTold(t, b)
		if other, ok := seen[sha.Sum(b)]; ok {
			t.Errorf("the bits %d and %d have one hash", other, n)
		}
		seen[sha.Sum(b)] = n
	}
}

// The length's bytes are all taken in, the higher ones too: 8191 and 8192 bytes have unlike second bytes, 2097152 unlike third ones.
func TestSumOfLongRows(t *testing.T) {
	r := rand.New(rand.NewPCG(3, 2))
	for _, n := range []int{511, 512, 513, 8191, 8192, 8193, 65535, 65536, 65537, 1<<21 - 1, 1 << 21, 1<<21 + 1} {
		b := someBytes(r, n)
		if got, want := sha.Sum(b), sha256.Sum256(b); got != want {
			t.Errorf("%d bytes: %x; want %x", n, got, want)
		}
	}
	wantAsTold(t, someBytes(r, 1<<16+17))
}

// Rows that end in what could be taken for the end of a shorter one's blocks have hashes of their own.
func TestSumOfRowsThatEndAsBlocksDo(t *testing.T) {
	seen := map[api.Hash]string{}
	for _, s := range []string{"", "\x80", "\x80\x00", "\x00", "\x00\x00", "a", "a\x80", "a\x00", "\x00a"} {
		h := sha.Sum([]byte(s))
		if other, ok := seen[h]; ok {
			t.Errorf("%q and %q have one hash", s, other)
		}
		seen[h] = s
		wantAsTold(t, []byte(s))
	}
	padded := append([]byte("abc\x80"), make([]byte, 60)...)
	padded[63] = 24
	wantAsTold(t, padded)
	if sha.Sum(padded) == sha.Sum([]byte("abc")) {
		t.Error("abc, and the block that it makes, have one hash")
	}
}

func TestBytesHandedInAreNotChanged(t *testing.T) {
	for n := range 200 {
		b := bytes.Repeat([]byte{'x'}, n)
		sha.Sum(b)
		if string(b) != strings.Repeat("x", n) {
			t.Fatalf("of %d bytes, some were changed: %q", n, b)
		}
	}
}

// R2 and R3: what was asked before plays no part, and what was answered is the caller's own.
func TestSumAsksForTheBytesOfNow(t *testing.T) {
	b := bytes.Repeat([]byte("abc"), 50)
	first := sha.Sum(b)
	kept := first
	b[140] = 'x'
	wantAsTold(t, b)
	if first != kept {
		t.Error("an answer was changed behind its call")
	}
	first[0]++
	b[140] = "abc"[140%3]
	if sha.Sum(b) != kept {
		t.Error("equal bytes have unlike hashes")
	}
}

// P3.2

func TestSumOfAMillion(t *testing.T) {
	const want = "cdc76e5c 9914fb92 81a1c7e2 84d73e67 f1809a48 a497200e 046d39cc c7112cd0"
	piece := bytes.Repeat([]byte("a"), 1000)
	var row []byte
	for range 1000 {
		row = append(row, piece...)
	}
	wantHash(t, row, want)
	wantHash(t, bytes.Repeat([]byte("a"), 1000000), want)
}

func TestSumOfKnownRows(t *testing.T) {
	wantHash(t, []byte("abcdbcdecdefdefgefghfghighijhijkijkljklmklmnlmnomnopnopq"),
		"248d6a61 d20638b8 e5c02693 0c3e6039 a33ce459 64ff2167 f6ecedd4 19db06c1")
	wantHash(t, []byte("abcdefghbcdefghicdefghijdefghijkefghijklfghijklmghijklmnhijklmnoijklmnopjklmnopqklmnopqrlmnopqrsmnopqrstnopqrstu"),
		"cf5b16a7 78af8380 036ce59e 7b049237 0b249b11 e8f07a51 afac4503 7afee9d1")
	wantHash(t, []byte("The quick brown fox jumps over the lazy dog"),
		"d7a8fbb3 07d78094 69ca9abc b0082e4f 8d5651e4 6d3cdb76 2d02d0bf 37c9e592")
	wantHash(t, []byte{0xbd}, "68325720 aabd7c82 f30f554b 313d0570 c95accbb 7dc4b5aa e11204c0 8ffe732b")
	wantHash(t, []byte{0xc9, 0x8c, 0x8e, 0x55}, "7abc22c0 ae5af26c e93dbb94 433a0e0b 2e119d01 4f8e7f65 bd56c61c cccd9504")
	wantHash(t, make([]byte, 1000), "541b3e9d aa09b20b f85fa273 e5cbd3e8 0185aa4e c298e765 db87742b 70138a53")
	wantHash(t, bytes.Repeat([]byte("A"), 1000), "c2e68682 3489ced2 017f6059 b8b23931 8b6364f6 dcd835d0 a519105a 1eadd6e4")
	wantHash(t, bytes.Repeat([]byte("U"), 1005), "f4d62dde c0f3dd90 ea1380fa 16a5ff8d c4c54b21 740650f2 4afc4120 903552b0")
}

// What stands around the bytes, in memory, is neither taken in nor changed, whether or not a block's end goes there.
func TestWhatStandsAroundPlaysNoPart(t *testing.T) {
	r := rand.New(rand.NewPCG(3, 3))
	for n := range 200 {
		b := someBytes(r, n)
		for _, around := range []string{"\x00", "\x80", "\xff", "x"} {
			side := strings.Repeat(around, 150)
			row := []byte(side + string(b) + side)
			wantAsTold(t, row[150:150+n])
			if string(row) != side+string(b)+side {
				t.Fatalf("something around %d bytes was changed", n)
			}
		}
		if sha.Sum(b) != told(bytes.Clone(b)) {
			t.Fatalf("%d bytes have unlike hashes at unlike places", n)
		}
	}
}

func FuzzSum(f *testing.F) {
	f.Add([]byte(nil))
	f.Add([]byte("abc"))
	f.Fuzz(func(t *testing.T, b []byte) {
		wantAsTold(t, b)
		if sha.Sum(b) != sha256.Sum256(b) {
			t.Errorf("% x: not the hash that the standard library tells", b)
		}
	})
}
