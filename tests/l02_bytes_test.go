package tests

import (
	"encoding/binary"
	"hash/crc32"
	"hash/fnv"
	"math"
	"strings"
	"testing"

	"loop.example/g00772/impl"
)

// farIndexes are indexes that no string contains.
var farIndexes = []int{-1, -2, -4, math.MinInt64, math.MinInt64 + 1, math.MinInt32, math.MaxInt32, math.MaxUint32, math.MaxInt64 - 4, math.MaxInt64 - 1, math.MaxInt64}

// otherNumBytes are numbers of bytes that no number has.
var otherNumBytes = []int{0, 5, 6, 8, 256, 257, -1, -2, -4, math.MinInt64, math.MinInt64 + 1, math.MaxInt64 - 1, math.MaxInt64}

// someNumbers returns numbers of every size and around every power of two.
func someNumbers() []int {
	numbers := []int{0, math.MaxInt64 - 1, math.MaxInt64, 0x01020304, 0x0102030405060708, 65279, 16777214}
	for shift := range 63 {
		power := 1 << shift
		numbers = append(numbers, power-1, power, power+1, power+power/2)
	}
	return numbers
}

// someBytes returns length bytes without an apparent rule.
func someBytes(length int, start uint32) string {
	bytes := make([]byte, length)
	for i := range bytes {
		start = start*1664525 + 1013904223
		bytes[i] = byte(start >> 24)
	}
	return string(bytes)
}

// sealedAs returns s with the four bytes of sum, the lowest first.
func sealedAs(s string, sum uint32) string {
	return string(binary.LittleEndian.AppendUint32([]byte(s), sum))
}

func castagnoli(s string) uint32 {
	return crc32.Checksum([]byte(s), crc32.MakeTable(crc32.Castagnoli))
}

func checkOpened(t *testing.T, s string, want string, ok bool) {
	t.Helper()
	if got, gotOk := impl.Opened(s); got != want || gotOk != ok {
		t.Errorf("Opened(%.60q) = %.60q, %v, want %.60q, %v", s, got, gotOk, want, ok)
	}
}

func checkGetText(t *testing.T, s string, at int, want string, after int) {
	t.Helper()
	if got, next := impl.GetText(s, at); got != want || next != after {
		t.Errorf("GetText(%.60q, %d) = %.60q, %d, want %.60q, %d", s, at, got, next, want, after)
	}
}

func TestPutNum(t *testing.T) {
	cases := []struct {
		n     int
		bytes int
		want  string
	}{
		{0, 1, "\x00"}, {0, 2, "\x00\x00"}, {0, 3, "\x00\x00\x00"}, {0, 4, "\x00\x00\x00\x00"},
		{1, 1, "\x01"}, {255, 1, "\xff"}, {256, 1, "\x00"}, {257, 1, "\x01"},
		{1, 2, "\x00\x01"}, {258, 2, "\x01\x02"}, {65535, 2, "\xff\xff"}, {65536, 2, "\x00\x00"}, {66051, 2, "\x02\x03"},
		{66051, 3, "\x01\x02\x03"}, {16777215, 3, "\xff\xff\xff"}, {16777216, 3, "\x00\x00\x00"},
		{16909060, 4, "\x01\x02\x03\x04"}, {2147483648, 4, "\x80\x00\x00\x00"}, {4294967295, 4, "\xff\xff\xff\xff"}, {4294967296, 4, "\x00\x00\x00\x00"},
		{0x0102030405060708, 4, "\x05\x06\x07\x08"}, {math.MaxInt64, 4, "\xff\xff\xff\xff"}, {math.MaxInt64, 1, "\xff"},
		{128, 1, "\x80"}, {10, 1, "\n"},
	}
	for _, c := range cases {
		if got := impl.PutNum(c.n, c.bytes); got != c.want {
			t.Errorf("PutNum(%d, %d) = %q, want %q", c.n, c.bytes, got, c.want)
		}
	}
}

func TestPutNumRejects(t *testing.T) {
	for _, n := range []int{-1, -2, -255, -256, -65536, math.MinInt32, -1 << 32, math.MinInt64, math.MinInt64 + 1} {
		for bytes := -1; bytes <= 9; bytes++ {
			if got := impl.PutNum(n, bytes); got != "" {
				t.Errorf("PutNum(%d, %d) = %q, want none", n, bytes, got)
			}
		}
	}
	for _, bytes := range otherNumBytes {
		for _, n := range []int{0, 1, 256, math.MaxInt64, -1} {
			if got := impl.PutNum(n, bytes); got != "" {
				t.Errorf("PutNum(%d, %d) = %q, want none", n, bytes, got)
			}
		}
	}
}

func TestPutNumLowestBytes(t *testing.T) {
	for _, n := range someNumbers() {
		whole := string(binary.BigEndian.AppendUint64(nil, uint64(n)))
		for bytes := 1; bytes <= 4; bytes++ {
			if got := impl.PutNum(n, bytes); got != whole[8-bytes:] {
				t.Errorf("PutNum(%d, %d) = %q, want %q", n, bytes, got, whole[8-bytes:])
			}
		}
	}
}

func TestGetNum(t *testing.T) {
	cases := []struct {
		s     string
		at    int
		bytes int
		want  int
	}{
		{"\x00", 0, 1, 0}, {"\xff", 0, 1, 255}, {"\x80", 0, 1, 128},
		{"\x01\x02\x03\x04", 0, 1, 1}, {"\x01\x02\x03\x04", 0, 2, 258}, {"\x01\x02\x03\x04", 0, 3, 66051}, {"\x01\x02\x03\x04", 0, 4, 16909060},
		{"\x01\x02\x03\x04", 1, 3, 131844}, {"\x01\x02\x03\x04", 2, 2, 772}, {"\x01\x02\x03\x04", 3, 1, 4},
		{"\xff\xff\xff\xff", 0, 4, 4294967295}, {"\x80\x00\x00\x00", 0, 4, 2147483648}, {"\x00\x00\x00\x00", 0, 4, 0},
		{"\u00e9", 0, 2, 50089}, {"\u00e9", 1, 1, 169},
	}
	for _, c := range cases {
		if got := impl.GetNum(c.s, c.at, c.bytes); got != c.want {
			t.Errorf("GetNum(%q, %d, %d) = %d, want %d", c.s, c.at, c.bytes, got, c.want)
		}
	}
}

func TestGetNumCutAtTheEnd(t *testing.T) {
	for length := range 8 {
		s := strings.Repeat("\x01", length)
		for at := -3; at <= length+3; at++ {
			for bytes := 1; bytes <= 4; bytes++ {
				want := -1
				if at >= 0 && at+bytes <= length {
					want = []int{0x1, 0x101, 0x10101, 0x1010101}[bytes-1]
				}
				if got := impl.GetNum(s, at, bytes); got != want {
					t.Errorf("GetNum of %d bytes, %d, %d = %d, want %d", length, at, bytes, got, want)
				}
			}
		}
	}
}

func TestGetNumRejects(t *testing.T) {
	for _, s := range []string{"", "a", "abcdefgh", someBytes(300, 1)} {
		for _, at := range farIndexes {
			for bytes := 1; bytes <= 4; bytes++ {
				if got := impl.GetNum(s, at, bytes); got != -1 {
					t.Errorf("GetNum(%.20q, %d, %d) = %d, want -1", s, at, bytes, got)
				}
			}
		}
		for _, bytes := range otherNumBytes {
			for _, at := range append([]int{0, 1, len(s)}, farIndexes...) {
				if got := impl.GetNum(s, at, bytes); got != -1 {
					t.Errorf("GetNum(%.20q, %d, %d) = %d, want -1", s, at, bytes, got)
				}
			}
		}
	}
}

// TestNumbersAreRecovered checks promise 2 for numbers, wherever they stand.
func TestNumbersAreRecovered(t *testing.T) {
	for _, n := range someNumbers() {
		for bytes := 1; bytes <= 4; bytes++ {
			want := n & (1<<(8*bytes) - 1)
			for _, before := range []string{"", "x", "\xff\xff\xff"} {
				for _, after := range []string{"", "y", "\x00\xff"} {
					if got := impl.GetNum(before+impl.PutNum(n, bytes)+after, len(before), bytes); got != want {
						t.Errorf("%d in %d bytes between %q and %q is read as %d", n, bytes, before, after, got)
					}
				}
			}
		}
	}
}

func TestPutText(t *testing.T) {
	cases := []struct{ s, want string }{
		{"", "\x00\x00"}, {"a", "\x00\x01a"}, {"ab", "\x00\x02ab"}, {"\x00", "\x00\x01\x00"}, {"\n\xff", "\x00\x02\n\xff"},
		{"\u00e9", "\x00\x02\xc3\xa9"},
		{strings.Repeat("k", 255), "\x00\xff" + strings.Repeat("k", 255)},
		{strings.Repeat("k", 256), "\x01\x00" + strings.Repeat("k", 256)},
		{strings.Repeat("k", 258), "\x01\x02" + strings.Repeat("k", 258)},
		{strings.Repeat("k", 65534), "\xff\xfe" + strings.Repeat("k", 65534)},
		{strings.Repeat("k", 65535), "\xff\xff" + strings.Repeat("k", 65535)},
		{strings.Repeat("k", 65536), ""}, {strings.Repeat("k", 65537), ""}, {strings.Repeat("k", 131072), ""}, {strings.Repeat("k", 131077), ""},
	}
	for _, c := range cases {
		if got := impl.PutText(c.s); got != c.want {
			t.Errorf("PutText of %d bytes = %.20q and so on, %d bytes, want %.20q and so on, %d bytes", len(c.s), got, len(got), c.want, len(c.want))
		}
	}
}

func TestGetText(t *testing.T) {
	checkGetText(t, "\x00\x00", 0, "", 2)
	checkGetText(t, "xx\x00\x00", 2, "", 4)
	checkGetText(t, "\x00\x02ab", 0, "ab", 4)
	checkGetText(t, "\x00\x02abc", 0, "ab", 4)
	checkGetText(t, "x\x00\x01a\x00\x02bc", 1, "a", 4)
	checkGetText(t, "x\x00\x01a\x00\x02bc", 4, "bc", 8)
	checkGetText(t, "\x00\x03\x00\x01\xff", 0, "\x00\x01\xff", 5)
	long := strings.Repeat("k", 65535)
	checkGetText(t, "\xff\xff"+long, 0, long, 65537)
	checkGetText(t, "\xff\xff"+long+"k", 0, long, 65537)
}

func TestGetTextRejects(t *testing.T) {
	for _, s := range []string{"", "\x00", "\x01", "\x00\x01", "\x00\x02a", "\x01\x00", "\x01\x00" + strings.Repeat("k", 255), "\xff\xff", "\xff\xff" + strings.Repeat("k", 65534)} {
		checkGetText(t, s, 0, "", -1)
	}
	for _, s := range []string{"", "\x00", "\x00\x00", "\x00\x01a", "\x00\x00\x00\x00\x00\x00"} {
		for _, at := range append([]int{len(s) - 1, len(s), len(s) + 1}, farIndexes...) {
			checkGetText(t, s, at, "", -1)
		}
	}
}

// TestTextsAreRecovered checks promise 2 for strings: a row of texts is read
// back one after another, and the last one is missed wherever it is cut.
func TestTextsAreRecovered(t *testing.T) {
	texts := append(shortStrings("\x00\x01a\xff", 3), someBytes(255, 1), someBytes(256, 2), someBytes(1000, 3), someBytes(65535, 4))
	row := ""
	for _, text := range texts {
		row += impl.PutText(text)
	}
	at := 0
	for _, text := range texts {
		checkGetText(t, row, at, text, at+2+len(text))
		at += 2 + len(text)
	}
	if at != len(row) {
		t.Errorf("the row has %d bytes, not %d", len(row), at)
	}
	for _, text := range texts[:len(texts)-1] {
		whole := "x" + impl.PutText(text)
		for n := range len(whole) {
			checkGetText(t, whole[:n], 1, "", -1)
		}
	}
}

func TestCrc(t *testing.T) {
	cases := []struct {
		s    string
		want int
	}{
		{"", 0}, {"a", 0xc1d04330}, {"123456789", 0xe3069283}, {"\x00", 0x527d5351}, {"\xff", 0xff000000},
		{strings.Repeat("\x00", 32), 0x8a9136aa}, {strings.Repeat("\xff", 32), 0x62a8ab43},
	}
	for _, c := range cases {
		if got := impl.Crc(c.s); got != c.want {
			t.Errorf("Crc(%q) = %#x, want %#x", c.s, got, c.want)
		}
	}
}

// TestCrcByBits follows the document's description bit by bit.
func TestCrcByBits(t *testing.T) {
	texts := append(shortStrings("\x00\x01\x80\xff", 4), someBytes(100, 5), someBytes(10000, 6))
	for c := range 256 {
		texts = append(texts, string([]byte{byte(c)}), "ab"+string([]byte{byte(c)})+"c")
	}
	for _, s := range texts {
		register := uint32(math.MaxUint32)
		for i := range len(s) {
			register ^= uint32(s[i])
			for range 8 {
				out := register & 1
				register >>= 1
				if out == 1 {
					register ^= 0x82f63b78
				}
			}
		}
		if got := impl.Crc(s); got != int(^register) || uint32(got) != castagnoli(s) {
			t.Errorf("Crc(%.40q) = %#x, want %#x", s, got, ^register)
		}
	}
}

func TestHash(t *testing.T) {
	cases := []struct {
		s    string
		want int
	}{
		{"", 2166136261}, {"a", 0xe40c292c}, {"b", 0xe70c2de5}, {"foobar", 0xbf9cf968}, {"\x00", 0x050c5d1f},
	}
	for _, c := range cases {
		if got := impl.Hash(c.s); got != c.want {
			t.Errorf("Hash(%q) = %#x, want %#x", c.s, got, c.want)
		}
	}
}

func TestHashOfManyTexts(t *testing.T) {
	texts := append(shortStrings("\x00a\x80\xff", 5), someBytes(100, 7), someBytes(100000, 8))
	for _, s := range texts {
		h := fnv.New32a()
		h.Write([]byte(s))
		if got := impl.Hash(s); got != int(h.Sum32()) {
			t.Errorf("Hash(%.40q) = %#x, want %#x", s, got, h.Sum32())
		}
	}
}

func TestSealed(t *testing.T) {
	if got := impl.Sealed("123456789"); got != "123456789\x83\x92\x06\xe3" {
		t.Errorf("Sealed = %q", got)
	}
	for _, s := range append(shortStrings("\x00a\xff", 4), someBytes(70000, 9)) {
		if got := impl.Sealed(s); got != sealedAs(s, castagnoli(s)) {
			t.Errorf("Sealed(%.40q) = %.60q", s, got)
		}
	}
}

func TestOpenedRejects(t *testing.T) {
	// No string shorter than its own checksum is sealed.
	for _, s := range append(shortStrings("\x00\x01a\xff", 3), someBytes(3, 10)) {
		checkOpened(t, s, "", false)
	}
	bodies := []string{"", "a", "ab", "abc", "abcd", "123456789", "\x00", "\x00\x00\x00\x00", someBytes(200, 11)}
	for _, s := range bodies {
		crc := castagnoli(s)
		checkOpened(t, sealedAs(s, crc+1), "", false)
		checkOpened(t, sealedAs(s, crc-1), "", false)
		checkOpened(t, sealedAs(s, ^crc), "", false)
		checkOpened(t, sealedAs("x", crc)+s, "", false)
		checkOpened(t, sealedAs(s, crc)+"\x00", "", false)
		checkOpened(t, "\x00"+sealedAs(s, crc), "", false)
	}
	checkOpened(t, "123456789\xe3\x06\x92\x83", "", false)
	checkOpened(t, "123456789", "", false)
}

// TestSealedIsRecovered checks promise 2 for sealed forms: the string comes
// back, and every form with one, two or some neighbouring bits changed, or with
// its end cut off, is rejected.
func TestSealedIsRecovered(t *testing.T) {
	bodies := append(shortStrings("\x00\xff", 2), "a", "123456789", "\n \t", someBytes(40, 12))
	for _, s := range bodies {
		sealed := impl.Sealed(s)
		checkOpened(t, sealed, s, true)
		for n := range len(sealed) {
			checkOpened(t, sealed[:n], "", false)
		}
		for first := range 8 * len(sealed) {
			for second := first; second < 8*len(sealed); second++ {
				changed := []byte(sealed)
				changed[first/8] ^= 1 << (first % 8)
				if second != first {
					changed[second/8] ^= 1 << (second % 8)
				}
				checkOpened(t, string(changed), "", false)
			}
		}
		for at := range sealed {
			for c := 1; c < 256; c++ {
				changed := []byte(sealed)
				changed[at] ^= byte(c)
				checkOpened(t, string(changed), "", false)
			}
		}
	}
	for _, length := range []int{65535, 65536, 100000} {
		s := someBytes(length, 13)
		checkOpened(t, impl.Sealed(s), s, true)
	}
}

func TestSealedTwice(t *testing.T) {
	for _, s := range []string{"", "a", "12345678"} {
		once := impl.Sealed(s)
		twice := impl.Sealed(once)
		checkOpened(t, twice, once, true)
		checkOpened(t, once, s, true)
	}
}

func FuzzOpened(f *testing.F) {
	f.Add("123456789\x83\x92\x06\xe3", 1)
	f.Add("\x00\x00\x00\x00", 0)
	f.Fuzz(func(t *testing.T, s string, at int) {
		if opened, ok := impl.Opened(s); ok != (opened+s[min(len(opened), len(s)):] == s && impl.Sealed(opened) == s) {
			t.Errorf("Opened(%q) = %q, %v", s, opened, ok)
		}
		if text, next := impl.GetText(s, at); next >= 0 && s[at:next] != impl.PutText(text) {
			t.Errorf("GetText(%q, %d) = %q, %d", s, at, text, next)
		}
		for bytes := 1; bytes <= 4; bytes++ {
			if n := impl.GetNum(s, at, bytes); n >= 0 && s[at:at+bytes] != impl.PutNum(n, bytes) {
				t.Errorf("GetNum(%q, %d, %d) = %d", s, at, bytes, n)
			}
		}
	})
}
