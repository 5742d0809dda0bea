package checksum_test

import (
	"bytes"
	"encoding/binary"
	"hash/adler32"
	"hash/crc32"
	"math"
	"math/big"
	"slices"
	"testing"

	"compositor/api"
	"compositor/checksum"
)

// mixed returns n bytes that depend on the seed and have no simple pattern.
func mixed(n int, seed uint32) []byte {
	b := make([]byte, n)
	for i := range b {
		seed = seed*1664525 + 1013904223
		b[i] = byte(seed >> 24)
	}
	return b
}

// sequences returns byte sequences of many lengths, ones of large bytes among them, with which both parts of an Adler-32 checksum exceed the modulus often.
func sequences() [][]byte {
	out := [][]byte{nil, {}, {0}, {1}, {128}, {255}, []byte("123456789"), make([]byte, 1000), make([]byte, 70000)}
	for n := 2; n < 40; n++ {
		out = append(out, mixed(n, uint32(n)))
	}
	for _, n := range []int{255, 256, 257, 258, 5551, 5552, 5553, 65521, 70000} {
		out = append(out, mixed(n, 7), bytes.Repeat([]byte{255}, n))
	}
	return out
}

// sums are checksums to update, ones with Adler-32 parts that are not reduced among them.
func sums() []uint32 {
	return []uint32{0, 1, 2, 255, 256, 65519, 65520, 65521, 65522, 65535, 65536, 65537, 65520 << 16, 65521 << 16, 65535 << 16,
		65520<<16 | 65520, 65521<<16 | 65521, 65520<<16 | 65521, math.MaxUint32, math.MaxUint32 - 1, 1 << 31, 0xCBF43926, 0xEDB88320, 0x12345678}
}

// updatedCRC32 is the definition of the chapter.
func updatedCRC32(sum uint32, b []byte) uint32 {
	register := ^sum
	for _, x := range b {
		register ^= uint32(x)
		for range 8 {
			out := register % 2
			register /= 2
			if out == 1 {
				register ^= 0xEDB88320
			}
		}
	}
	return ^register
}

// updatedAdler32 is the definition of the chapter.
func updatedAdler32(sum uint32, b []byte) uint32 {
	s1, s2 := uint64(sum%65536%65521), uint64(sum/65536%65521)
	for _, x := range b {
		s1 = (s1 + uint64(x)) % 65521
		s2 = (s2 + s1) % 65521
	}
	return uint32(s2*65536 + s1)
}

// combined is P3.2, with numbers that do not overflow.
func combined(a, b uint32, n int) uint32 {
	number := func(x uint32) *big.Int { return big.NewInt(int64(x)) }
	modulus := big.NewInt(65521)
	less := new(big.Int).Sub(number(a%65536), big.NewInt(1))
	s1 := new(big.Int).Add(less, number(b%65536))
	s2 := new(big.Int).Mul(big.NewInt(int64(max(n, 0))), less)
	s2.Add(s2, number(a/65536))
	s2.Add(s2, number(b/65536))
	s1.Mod(s1, modulus)
	s2.Mod(s2, modulus)
	return uint32(s2.Int64()*65536 + s1.Int64())
}

// P3.1: checksums that are known from elsewhere, the examples among them.
func TestKnown(t *testing.T) {
	for _, x := range []struct {
		b          string
		crc, adler uint32
	}{
		{"", 0, 1},
		{"a", 0xE8B7BE43, 0x00620062},
		{"abc", 0x352441C2, 0x024D0127},
		{"123456789", 0xCBF43926, 0x091E01DE},
		{"message digest", 0x20159D7F, 0x29750586},
		{"Wikipedia", 0xADAAC02E, 0x11E60398},
		{"The quick brown fox jumps over the lazy dog", 0x414FA339, 0x5BDC0FDA},
		{"\x00", 0xD202EF8D, 0x00010001},
		{"\x00\x00\x00\x00", 0x2144DF1C, 0x00040001},
		{"\xff\xff\xff\xff", 0xFFFFFFFF, 0x09FA03FD},
		{string(make([]byte, 32)), 0x190A55AD, 0x00200001},
		{string(bytes.Repeat([]byte{255}, 32)), 0xFF6CAB0B, 0x0E2E1FE1},
	} {
		b := []byte(x.b)
		if got := checksum.CRC32(b); got != x.crc {
			t.Errorf("CRC32 of %q: got %#x, want %#x", x.b, got, x.crc)
		}
		if got := checksum.Adler32(b); got != x.adler {
			t.Errorf("Adler32 of %q: got %#x, want %#x", x.b, got, x.adler)
		}
	}
	if checksum.CRC32(nil) != 0 || checksum.Adler32(nil) != 1 {
		t.Error("nil")
	}
}

// P3.1: CRC32 and Adler32 are the checksums of IEEE 802.3 and RFC 1950, and updates of 0 and 1.
func TestWhole(t *testing.T) {
	for _, b := range sequences() {
		want := crc32.ChecksumIEEE(b)
		if got, updated := checksum.CRC32(b), checksum.UpdateCRC32(0, b); got != want || updated != want {
			t.Errorf("CRC-32 of %d bytes: %#x, updated %#x, want %#x", len(b), got, updated, want)
		}
		want = adler32.Checksum(b)
		if got, updated := checksum.Adler32(b), checksum.UpdateAdler32(1, b); got != want || updated != want {
			t.Errorf("Adler-32 of %d bytes: %#x, updated %#x, want %#x", len(b), got, updated, want)
		}
	}
}

// P3.1: any checksum can be updated; the parts of an Adler-32 checksum are reduced first, even if there are no bytes.
func TestUpdate(t *testing.T) {
	for _, b := range sequences() {
		for _, sum := range sums() {
			if got, want := checksum.UpdateCRC32(sum, b), updatedCRC32(sum, b); got != want {
				t.Errorf("CRC-32 %#x, %d bytes: got %#x, want %#x", sum, len(b), got, want)
			}
			if got, want := checksum.UpdateAdler32(sum, b), updatedAdler32(sum, b); got != want {
				t.Errorf("Adler-32 %#x, %d bytes: got %#x, want %#x", sum, len(b), got, want)
			}
		}
	}
}

// P3.1: updates whose results are written out.
func TestUpdateKnown(t *testing.T) {
	for _, x := range []struct {
		sum        uint32
		b          []byte
		crc, adler uint32
	}{
		{0x12345678, nil, 0x12345678, 0x12345678},
		{math.MaxUint32, nil, math.MaxUint32, 0x000E000E},
		{65521, nil, 65521, 0},
		{65521 << 16, nil, 65521 << 16, 0},
		{65520<<16 | 65520, nil, 65520<<16 | 65520, 65520<<16 | 65520},
		{0, []byte{0}, 0xD202EF8D, 0},
		{1, []byte{0}, 0xA505DF1B, 0x00010001},
		{0x12345678, []byte("ab"), 0xFB6D5D66, 0xC048573B},
		{math.MaxUint32, []byte{0}, 0xFFFFFFFF, 0x001C000E},
		{math.MaxUint32, []byte{1}, 0x88F8CF69, 0x001D000F},
		{65520<<16 | 65520, []byte{1}, 0x1847DDF8, 65520 << 16},
		{65520<<16 | 65520, []byte{2}, 0x814E8C42, 1},
	} {
		if got := checksum.UpdateCRC32(x.sum, x.b); got != x.crc {
			t.Errorf("CRC-32 %#x by % x: got %#x, want %#x", x.sum, x.b, got, x.crc)
		}
		if got := checksum.UpdateAdler32(x.sum, x.b); got != x.adler {
			t.Errorf("Adler-32 %#x by % x: got %#x, want %#x", x.sum, x.b, got, x.adler)
		}
	}
}

// P3.2: both parts, also unreduced ones, lengths of the full range of their type, and negative ones, which count as 0.
func TestCombine(t *testing.T) {
	lengths := []int{math.MinInt, math.MinInt32, -65521, -2, -1, 0, 1, 2, 3, 255, 65519, 65520, 65521, 65522, 65535, 65536, 131042, 1 << 20, math.MaxInt32 - 1, math.MaxInt32, math.MaxInt - 1, math.MaxInt}
	for _, a := range sums() {
		for _, b := range sums() {
			for _, n := range lengths {
				if got, want := checksum.CombineAdler32(a, b, n), combined(a, b, n); got != want {
					t.Errorf("%#x, %#x, %d: got %#x, want %#x", a, b, n, got, want)
				}
			}
		}
	}
}

// P3.2: combinations whose results are written out.
func TestCombineKnown(t *testing.T) {
	for _, x := range []struct {
		a, b uint32
		n    int
		want uint32
	}{
		{1, 1, 0, 1},
		{0x00620062, 1, 0, 0x00620062},
		{1, 0x00620062, 1, 0x00620062},
		{0x00620062, 0x00630063, 1, 0x012600C4}, // "a" and "b"
		{0, 0, 0, 65520},                        // 0 minus 1 is 65520
		{0, 0, 1, 65520<<16 | 65520},
		{0, 0, 2, 65519<<16 | 65520},
		{0, 1, 65521, 0},
		{65521<<16 | 65521, 1, 1, 65520 << 16},
		{65535<<16 | 65535, 65535<<16 | 65535, 0, 28<<16 | 27},
		{5<<16 | 3, 7<<16 | 4, 10, 32<<16 | 6},
		{5<<16 | 3, 7<<16 | 4, -10, 12<<16 | 6},
		{5<<16 | 3, 7<<16 | 4, math.MinInt, 12<<16 | 6},
	} {
		if got := checksum.CombineAdler32(x.a, x.b, x.n); got != x.want {
			t.Errorf("%#x, %#x, %d: got %#x, want %#x", x.a, x.b, x.n, got, x.want)
		}
	}
}

// checkConcatenation is P3.4 for the two parts of b.
func checkConcatenation(t *testing.T, b []byte, at int) {
	t.Helper()
	first, second := b[:at], b[at:]
	if got, want := checksum.UpdateCRC32(checksum.CRC32(first), second), checksum.CRC32(b); got != want {
		t.Fatalf("%d bytes, divided at %d: CRC-32 %#x, want %#x", len(b), at, got, want)
	}
	want := checksum.Adler32(b)
	if got := checksum.UpdateAdler32(checksum.Adler32(first), second); got != want {
		t.Fatalf("%d bytes, divided at %d: Adler-32 %#x, want %#x", len(b), at, got, want)
	}
	if got := checksum.CombineAdler32(checksum.Adler32(first), checksum.Adler32(second), len(second)); got != want {
		t.Fatalf("%d bytes, divided at %d: combined %#x, want %#x", len(b), at, got, want)
	}
}

// P3.4: the checksums of concatenations, with empty parts among them.
func TestConcatenation(t *testing.T) {
	for _, b := range sequences() {
		step := max(1, len(b)/50)
		for at := 0; at < len(b); at += step {
			checkConcatenation(t, b, at)
		}
		checkConcatenation(t, b, len(b))
	}
}

// P3.4: a sequence in many pieces, some of which are empty.
func TestPieces(t *testing.T) {
	b := mixed(3000, 5)
	crc, updated, joined := checksum.CRC32(nil), checksum.Adler32(nil), checksum.Adler32(nil)
	for at, n := 0, 0; at < len(b); n = (n*3 + 1) % 17 {
		piece := b[at:min(at+n, len(b))]
		at += len(piece)
		crc = checksum.UpdateCRC32(crc, piece)
		updated = checksum.UpdateAdler32(updated, piece)
		joined = checksum.CombineAdler32(joined, checksum.Adler32(piece), len(piece))
		if want := crc32.ChecksumIEEE(b[:at]); crc != want {
			t.Fatalf("CRC-32 after %d bytes: %#x, want %#x", at, crc, want)
		}
		if want := adler32.Checksum(b[:at]); updated != want || joined != want {
			t.Fatalf("Adler-32 after %d bytes: updated %#x, combined %#x, want %#x", at, updated, joined, want)
		}
	}
}

// xor returns the bytewise exclusive or of sequences of equal length.
func xor(l ...[]byte) []byte {
	out := make([]byte, len(l[0]))
	for _, b := range l {
		for i, x := range b {
			out[i] ^= x
		}
	}
	return out
}

// withBits returns zero bytes except for the 32 bits from the given one on, as far as they are there, which are those of the pattern.
func withBits(n, from int, pattern uint32) []byte {
	b := make([]byte, n)
	for i := range min(32, n*8-from) {
		b[(from+i)/8] |= byte(pattern >> i & 1 << ((from + i) % 8))
	}
	return b
}

// P3.5: the exclusive or of the checksums of three sequences is the checksum of their exclusive or.
func TestThreeSequences(t *testing.T) {
	for n := range 300 {
		a, b, c := mixed(n, 1), mixed(n, uint32(n)+2), mixed(n, uint32(n)*77+3)
		got := checksum.CRC32(a) ^ checksum.CRC32(b) ^ checksum.CRC32(c)
		if want := checksum.CRC32(xor(a, b, c)); got != want {
			t.Errorf("%d bytes: got %#x, want %#x", n, got, want)
		}
	}
}

// P3.5: all three sequences of one byte.
func TestThreeBytes(t *testing.T) {
	var sum [256]uint32
	for i := range sum {
		sum[i] = checksum.CRC32([]byte{byte(i)})
	}
	for a := range sum {
		for b := range sum {
			for c := range sum {
				if sum[a]^sum[b]^sum[c] != sum[a^b^c] {
					t.Fatal(a, b, c)
				}
			}
		}
	}
}

// independent reports whether no exclusive or of some of the numbers is 0.
func independent(l []uint32) bool {
	var basis [32]uint32 // by the highest bit
	for _, x := range l {
		for bit := 31; bit >= 0 && x != 0; bit-- {
			if x>>bit == 0 {
				continue
			}
			if basis[bit] == 0 {
				basis[bit] = x
				break
			}
			x ^= basis[bit]
		}
		if x == 0 {
			return false
		}
	}
	return true
}

// P3.5: no change within 32 consecutive bits leaves the checksum as it is. As the checksum of three sequences shows, the change of the checksum depends on the changed bits only, and is the exclusive or of the changes by single bits; so it is enough that these are independent.
func TestBursts(t *testing.T) {
	for _, n := range []int{1, 2, 3, 4, 5, 8, 13, 40, 300} {
		b := mixed(n, uint32(n))
		sum := checksum.CRC32(b)
		var changes []uint32
		for bit := range n * 8 {
			changes = append(changes, checksum.CRC32(xor(b, withBits(n, bit, 1)))^sum)
		}
		for from := range changes {
			if !independent(changes[from:min(from+32, len(changes))]) {
				t.Fatalf("%d bytes: bits from %d on", n, from)
			}
		}
	}
}

// P3.5: bursts of several patterns at every bit, in sequences of several contents.
func TestBurstPatterns(t *testing.T) {
	patterns := []uint32{1, 3, 5, 1 << 31, 1<<31 | 1, math.MaxUint32, 0xEDB88320, 0xDB710641, 0x04C11DB7, 0x82608EDB, 0xFF, 0xFF00FF00, 0x80000003, 0xAAAAAAAA}
	for _, b := range [][]byte{make([]byte, 20), bytes.Repeat([]byte{255}, 20), mixed(20, 9)} {
		sum := checksum.CRC32(b)
		for from := range len(b) * 8 {
			for _, pattern := range patterns {
				changed := xor(b, withBits(len(b), from, pattern))
				if !bytes.Equal(changed, b) && checksum.CRC32(changed) == sum {
					t.Fatalf("%#x from bit %d on", pattern, from)
				}
			}
		}
	}
}

// P3.5: sequences that differ in one byte have different Adler-32 checksums.
func TestOneByte(t *testing.T) {
	for _, b := range [][]byte{{0}, mixed(2, 1), mixed(50, 2), make([]byte, 300), bytes.Repeat([]byte{255}, 300), mixed(6000, 3)} {
		step := max(1, len(b)/60)
		for at := len(b) - 1; at >= 0; at -= step {
			changed := bytes.Clone(b)
			seen := map[uint32]int{}
			for x := range 256 {
				changed[at] = byte(x)
				sum := checksum.Adler32(changed)
				if other, ok := seen[sum]; ok {
					t.Fatalf("%d bytes: %d and %d at %d", len(b), other, x, at)
				}
				seen[sum] = x
			}
		}
	}
}

// P3.3: Append adds the checksum, least significant byte first.
func TestAppend(t *testing.T) {
	for i, x := range []struct{ b, want []byte }{
		{nil, []byte{0, 0, 0, 0}},
		{[]byte{}, []byte{0, 0, 0, 0}},
		{[]byte{0}, []byte{0, 0x8D, 0xEF, 0x02, 0xD2}},
		{[]byte("a"), []byte{'a', 0x43, 0xBE, 0xB7, 0xE8}},
		{[]byte("123456789"), append([]byte("123456789"), 0x26, 0x39, 0xF4, 0xCB)},
		{[]byte{0, 0, 0, 0}, []byte{0, 0, 0, 0, 0x1C, 0xDF, 0x44, 0x21}},
	} {
		if got := checksum.Append(x.b); !bytes.Equal(got, x.want) {
			t.Errorf("%d: got % x, want % x", i, got, x.want)
		}
	}
	for _, b := range sequences() {
		want := binary.LittleEndian.AppendUint32(slices.Clone(b), crc32.ChecksumIEEE(b))
		if got := checksum.Append(b); !bytes.Equal(got, want) {
			t.Errorf("%d bytes: got % x", len(b), got)
		}
	}
}

// P3.3: the bytes before the checksum, or an error and no bytes.
func TestVerify(t *testing.T) {
	for i, x := range []struct {
		b, want []byte
		e       api.Errno
	}{
		{nil, nil, api.ErrTruncated},
		{[]byte{}, nil, api.ErrTruncated},
		{[]byte{0}, nil, api.ErrTruncated},
		{[]byte{0, 0, 0}, nil, api.ErrTruncated},
		{[]byte{1, 2, 3}, nil, api.ErrTruncated},
		{[]byte{0, 0, 0, 0}, nil, api.OK},
		{[]byte{0, 0, 0, 1}, nil, api.ErrChecksum},
		{[]byte{1, 0, 0, 0}, nil, api.ErrChecksum},
		{[]byte{0, 0, 0, 0, 0}, nil, api.ErrChecksum},
		{[]byte{255, 255, 255, 255}, nil, api.ErrChecksum},
		{[]byte{255, 255, 255, 255, 255, 255, 255, 255}, []byte{255, 255, 255, 255}, api.OK},
		{[]byte{'a', 0x43, 0xBE, 0xB7, 0xE8}, []byte{'a'}, api.OK},
		{[]byte{'a', 0xE8, 0xB7, 0xBE, 0x43}, nil, api.ErrChecksum}, // most significant byte first
		{[]byte{'b', 0x43, 0xBE, 0xB7, 0xE8}, nil, api.ErrChecksum},
		{[]byte{'a', 0x43, 0xBE, 0xB7, 0xE8, 0}, nil, api.ErrChecksum},
		{[]byte{'a', 0x43, 0xBE, 0xB7}, nil, api.ErrChecksum},
		{[]byte{0x43, 0xBE, 0xB7, 0xE8, 'a'}, nil, api.ErrChecksum},
		{[]byte{'a', 0x62, 0x00, 0x62, 0x00}, nil, api.ErrChecksum}, // the Adler-32 checksum
	} {
		if got, e := checksum.Verify(x.b); e != x.e || !bytes.Equal(got, x.want) {
			t.Errorf("%d: got % x, error %d", i, got, e)
		}
	}
}

// P3.6: Verify inverts Append; a prefix of the result is an error.
func TestVerifyInvertsAppend(t *testing.T) {
	for _, b := range sequences() {
		if got, e := checksum.Verify(checksum.Append(b)); e != api.OK || !bytes.Equal(got, b) {
			t.Errorf("%d bytes: %d bytes, error %d", len(b), len(got), e)
		}
		twice := checksum.Append(checksum.Append(b))
		if got, e := checksum.Verify(twice); e != api.OK || !bytes.Equal(got, checksum.Append(b)) {
			t.Errorf("%d bytes, twice: %d bytes, error %d", len(b), len(got), e)
		}
	}
}

// P3.6: every inverted bit is noticed, in the bytes and in the checksum.
func TestInvertedBits(t *testing.T) {
	for _, b := range [][]byte{nil, {0}, {255}, []byte("123456789"), make([]byte, 64), mixed(500, 4)} {
		whole := checksum.Append(b)
		for bit := range len(whole) * 8 {
			whole[bit/8] ^= 1 << (bit % 8)
			if got, e := checksum.Verify(whole); e != api.ErrChecksum || len(got) != 0 {
				t.Fatalf("%d bytes, bit %d: % x, error %d", len(b), bit, got, e)
			}
			whole[bit/8] ^= 1 << (bit % 8)
		}
		if _, e := checksum.Verify(whole); e != api.OK {
			t.Fatalf("%d bytes: error %d", len(b), e)
		}
	}
}

// R3: arguments and their spare capacity stay as they are, and results are new memory.
func TestMemory(t *testing.T) {
	const n = 9
	memory := append(checksum.Append([]byte("12345"))[:n:n], bytes.Repeat([]byte{0xEE}, 40)...)
	want := bytes.Clone(memory)
	b := memory[:n]
	for range 2 {
		appended := checksum.Append(b)
		if !bytes.Equal(appended[:n], want[:n]) || len(appended) != n+4 {
			t.Errorf("Append: % x", appended)
		}
		clear(appended[:cap(appended)])
		verified, e := checksum.Verify(b)
		if e != api.OK || string(verified) != "12345" {
			t.Errorf("Verify: % x, error %d", verified, e)
		}
		clear(verified[:cap(verified)])
		checksum.CRC32(b)
		checksum.UpdateCRC32(1, b)
		checksum.Adler32(b)
		checksum.UpdateAdler32(1, b)
	}
	if !bytes.Equal(memory, want) {
		t.Errorf("an argument was modified: % x", memory)
	}
}

// R6: results depend on the arguments alone.
func TestNoState(t *testing.T) {
	for range 2 {
		for _, b := range [][]byte{[]byte("abc"), nil, mixed(1000, 1)} {
			if checksum.CRC32(b) != crc32.ChecksumIEEE(b) || checksum.Adler32(b) != adler32.Checksum(b) {
				t.Errorf("%d bytes", len(b))
			}
			checksum.UpdateCRC32(5, b)
			checksum.UpdateAdler32(5, b)
			checksum.Append(b)
			checksum.Verify(b)
		}
	}
}

// FuzzChecksums compares all functions with their definitions for arbitrary arguments.
func FuzzChecksums(f *testing.F) {
	f.Add([]byte("123456789"), 4, uint32(0), uint32(1), 5)
	f.Add([]byte{0, 0, 0, 0}, 0, uint32(math.MaxUint32), uint32(65521), -1)
	f.Add(checksum.Append([]byte("ab")), 6, uint32(65520), uint32(65535<<16), math.MaxInt)
	f.Fuzz(func(t *testing.T, b []byte, at int, sum, other uint32, n int) {
		checkConcatenation(t, b, min(max(at, 0), len(b)))
		if got, want := checksum.UpdateCRC32(sum, b), updatedCRC32(sum, b); got != want {
			t.Errorf("CRC-32 %#x: got %#x, want %#x", sum, got, want)
		}
		if got, want := checksum.UpdateAdler32(sum, b), updatedAdler32(sum, b); got != want {
			t.Errorf("Adler-32 %#x: got %#x, want %#x", sum, got, want)
		}
		if got, want := checksum.CombineAdler32(sum, other, n), combined(sum, other, n); got != want {
			t.Errorf("%#x, %#x, %d: got %#x, want %#x", sum, other, n, got, want)
		}
		got, e := checksum.Verify(b)
		if e == api.OK && !bytes.Equal(checksum.Append(got), b) || e != api.OK && len(got) != 0 {
			t.Errorf("Verify: % x, error %d", got, e)
		}
		if got, e := checksum.Verify(checksum.Append(b)); e != api.OK || !bytes.Equal(got, b) {
			t.Errorf("Verify of Append: % x, error %d", got, e)
		}
	})
}
