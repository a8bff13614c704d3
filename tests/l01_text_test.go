package tests

import (
	"bytes"
	"math"
	"math/big"
	"regexp"
	"slices"
	"strings"
	"testing"

	"loop.example/g00772/impl"
)

// shortStrings returns all strings of at most length bytes of the alphabet.
func shortStrings(alphabet string, length int) []string {
	all := []string{""}
	last := all
	for range length {
		var next []string
		for _, s := range last {
			for i := range len(alphabet) {
				next = append(next, s+alphabet[i:i+1])
			}
		}
		all = append(all, next...)
		last = next
	}
	return all
}

func TestDecText(t *testing.T) {
	cases := []struct {
		n    int
		want string
	}{
		{0, "0"}, {1, "1"}, {-1, "-1"}, {9, "9"}, {10, "10"}, {-10, "-10"},
		{120, "120"}, {-120, "-120"}, {100200, "100200"},
		{999999999, "999999999"}, {1000000000, "1000000000"},
		{math.MaxInt64, "9223372036854775807"},
		{math.MinInt64, "-9223372036854775808"},
		{math.MinInt64 + 1, "-9223372036854775807"},
	}
	for _, c := range cases {
		if got := impl.DecText(c.n); got != c.want {
			t.Errorf("DecText(%d) = %q, want %q", c.n, got, c.want)
		}
	}
}

func TestDecTextAroundPowers(t *testing.T) {
	for power := 1; power <= math.MaxInt64/10; power *= 10 {
		for _, n := range []int{power - 1, power, power + 1, -power - 1, -power, 1 - power, power * 7} {
			if got, want := impl.DecText(n), big.NewInt(int64(n)).String(); got != want {
				t.Errorf("DecText(%d) = %q, want %q", n, got, want)
			}
		}
	}
}

func TestReadDec(t *testing.T) {
	cases := []struct {
		s    string
		want int
	}{
		{"0", 0}, {"1", 1}, {"9", 9}, {"10", 10}, {"120", 120}, {"99999999", 99999999},
		{"100000000", 100000000}, {"999999998", 999999998}, {"999999999", 999999999},
	}
	for _, c := range cases {
		if got := impl.ReadDec(c.s); got != c.want {
			t.Errorf("ReadDec(%q) = %d, want %d", c.s, got, c.want)
		}
	}
}

func TestReadDecRejects(t *testing.T) {
	invalid := []string{
		"", "00", "01", "012", "0999999999", "000000000", "0000000001",
		"-", "+", "-0", "+0", "-1", "+1", "--1", "-999999999", "1-", "1+",
		"1000000000", "1999999999", "9999999999", "2147483648", "4294967296",
		"9223372036854775807", "9223372036854775808", "-9223372036854775808",
		"18446744073709551616", "18446744073709551617",
		" 1", "1 ", "1\n", "\t1", "1 2", "1,000", "1.0", "1.", ".5", "1e3", "1_000", "0x1f", "0b1", "a", "1a", "a1",
		"1\x00", "\x001", "\xff", "/", ":", "1/", "1:", "\u0661", "\uff11", "NaN", "Inf",
		strings.Repeat("9", 100000), strings.Repeat("0", 100000) + "1",
	}
	for _, s := range invalid {
		if got := impl.ReadDec(s); got != -1 {
			t.Errorf("ReadDec(%.40q) = %d, want -1", s, got)
		}
	}
}

func TestReadDecShortStrings(t *testing.T) {
	written := regexp.MustCompile(`\A(0|[1-9][0-9]*)\z`)
	for _, s := range shortStrings("0195+- _.x", 4) {
		want := -1
		if written.MatchString(s) {
			n, _ := new(big.Int).SetString(s, 10)
			want = int(n.Int64())
		}
		if got := impl.ReadDec(s); got != want {
			t.Errorf("ReadDec(%q) = %d, want %d", s, got, want)
		}
	}
}

func TestReadDecOfDecText(t *testing.T) {
	check := func(n int) {
		want := -1
		if n >= 0 && n <= 999999999 {
			want = n
		}
		if got := impl.ReadDec(impl.DecText(n)); got != want {
			t.Errorf("ReadDec(DecText(%d)) = %d, want %d", n, got, want)
		}
	}
	for n := -2000; n <= 20000; n++ {
		check(n)
	}
	for n := 0; n <= 1100000000; n += 9973 {
		check(n)
		check(-n)
	}
	for n := 999999000; n <= 1000001000; n++ {
		check(n)
	}
	for _, n := range []int{math.MinInt64, math.MaxInt64, math.MinInt32, math.MaxInt32, math.MaxUint32, 1 << 32, 1<<32 + 5} {
		check(n)
	}
}

func TestLines(t *testing.T) {
	cases := []struct {
		s    string
		want []string
	}{
		{"", nil},
		{"a", []string{"a"}},
		{" ", []string{" "}},
		{"\n", []string{"", ""}},
		{"\n\n", []string{"", "", ""}},
		{"a\n", []string{"a", ""}},
		{"\na", []string{"", "a"}},
		{"a\nb", []string{"a", "b"}},
		{"a\n\nb", []string{"a", "", "b"}},
		{"a\n\nb\n", []string{"a", "", "b", ""}},
		{"\n\na b\tc\n\n", []string{"", "", "a b\tc", "", ""}},
		{"a\r\nb\r", []string{"a\r", "b\r"}},
		{"a\vb\fc\u0085d\u2028e\x00f", []string{"a\vb\fc\u0085d\u2028e\x00f"}},
		{"\xff\n\xfe\x80", []string{"\xff", "\xfe\x80"}},
	}
	for _, c := range cases {
		if got := impl.Lines(c.s); !slices.Equal(got, c.want) {
			t.Errorf("Lines(%q) = %q, want %q", c.s, got, c.want)
		}
	}
}

func TestLinesJoined(t *testing.T) {
	texts := shortStrings("\na\r \x8a", 6)[1:]
	texts = append(texts, strings.Repeat("\n", 100000), strings.Repeat("ab\n", 50000), strings.Repeat("x", 100000))
	for _, s := range texts {
		lines := impl.Lines(s)
		if len(lines) != strings.Count(s, "\n")+1 || strings.Join(lines, "\n") != s {
			t.Errorf("Lines(%.40q) has %d parts, which do not make up the text", s, len(lines))
		}
	}
}

func TestLinesOfJoined(t *testing.T) {
	parts := shortStrings("a \r", 2)
	for _, a := range parts {
		for _, b := range parts {
			for _, c := range parts {
				want := []string{a, b, c}
				if got := impl.Lines(strings.Join(want, "\n")); !slices.Equal(got, want) {
					t.Errorf("Lines of the joined %q = %q", want, got)
				}
			}
		}
	}
}

func TestWords(t *testing.T) {
	cases := []struct {
		s    string
		want []string
	}{
		{"", nil}, {" ", nil}, {"\t", nil}, {" \t \t\t  ", nil},
		{"a", []string{"a"}},
		{"abc", []string{"abc"}},
		{"a b", []string{"a", "b"}},
		{"a\tb", []string{"a", "b"}},
		{" a\tbc  d", []string{"a", "bc", "d"}},
		{"\t\t a \t b\t \t", []string{"a", "b"}},
		{"b a b", []string{"b", "a", "b"}},
		{"ask c1  1 get k", []string{"ask", "c1", "1", "get", "k"}},
		{"a\nb c\r", []string{"a\nb", "c\r"}},
		{"\n", []string{"\n"}},
		{"a\vb\fc\u00a0d\u0085e\u3000f\x00g", []string{"a\vb\fc\u00a0d\u0085e\u3000f\x00g"}},
		{"\xff \xa0\x80", []string{"\xff", "\xa0\x80"}},
	}
	for _, c := range cases {
		if got := impl.Words(c.s); !slices.Equal(got, c.want) {
			t.Errorf("Words(%q) = %q, want %q", c.s, got, c.want)
		}
	}
}

func TestWordsShortStrings(t *testing.T) {
	texts := shortStrings("a \t\n\xa0", 6)
	texts = append(texts, strings.Repeat(" \t", 50000), strings.Repeat("ab \t", 50000), strings.Repeat("x", 100000))
	word := regexp.MustCompile(`(?s)[^ \t]+`)
	for _, s := range texts {
		if got := impl.Words(s); !slices.Equal(got, word.FindAllString(s, -1)) {
			t.Errorf("Words(%.40q) = %.80q", s, got)
		}
	}
}

func TestWordsOfJoined(t *testing.T) {
	words := shortStrings("ab\n", 2)[1:]
	for _, gap := range []string{" ", "\t", "  ", " \t ", "\t\t\t"} {
		for _, a := range words {
			for _, b := range words {
				want := []string{a, b, a}
				joined := strings.Join(want, gap)
				for _, s := range []string{joined, gap + joined, joined + gap, gap + joined + gap} {
					if got := impl.Words(s); !slices.Equal(got, want) {
						t.Errorf("Words(%q) = %q, want %q", s, got, want)
					}
				}
			}
		}
	}
}

func TestBefore(t *testing.T) {
	// Each string precedes all those after it.
	ascending := []string{
		"", "\x00", "\x00\x00", "\x01", "\n", " ", "!", "0", "00", "1", "10", "2", "A", "Z", "Za",
		"a", "a\x00", "a\x00b", "a ", "aa", "aaa", "ab", "b", "ba", "z", "\x7f", "\x80", "\u00e9", "\xe9", "\xff", "\xff\x00", "\xff\xff",
	}
	for i, a := range ascending {
		for k, b := range ascending {
			if got := impl.Before(a, b); got != (i < k) {
				t.Errorf("Before(%q, %q) = %v", a, b, got)
			}
		}
	}
}

func TestBeforeShortStrings(t *testing.T) {
	texts := shortStrings("\x00aZ\x80\xff", 3)
	for _, a := range texts {
		for _, b := range texts {
			if got := impl.Before(a, b); got != (bytes.Compare([]byte(a), []byte(b)) < 0) {
				t.Errorf("Before(%q, %q) = %v", a, b, got)
			}
		}
	}
}

func TestBeforeLongStrings(t *testing.T) {
	long := strings.Repeat("k", 100000)
	if !impl.Before(long, long+"\x00") || impl.Before(long+"\x00", long) || impl.Before(long, long) || !impl.Before(long+"a", long+"b") {
		t.Error("long strings with a common beginning are not ordered")
	}
}

func TestNameOk(t *testing.T) {
	valid := []string{"a", "z", "0", "9", "k1", "1k", "abcdefghijk", "abcdefghijkl", "mnopqrstuvwx", "yz0123456789", "000000000000"}
	for _, s := range valid {
		if !impl.NameOk(s) {
			t.Errorf("NameOk(%q) = false", s)
		}
	}
	invalid := []string{
		"", "abcdefghijklm", "0000000000000", "A", "aB", "a b", " a", "a ", "a\n", "\na", "a\x00", "a-b", "a_b", "a.b", "-1", "+1",
		"\u00e9", "\u0430", "\uff41", "\u0661", "\xff", "a\xc3", strings.Repeat("a", 100000), strings.Repeat(" ", 12),
	}
	for _, s := range invalid {
		if impl.NameOk(s) {
			t.Errorf("NameOk(%.40q) = true", s)
		}
	}
}

func TestNameOkEveryByte(t *testing.T) {
	const letters = "abcdefghijklmnopqrstuvwxyz0123456789"
	for c := range 256 {
		b := string([]byte{byte(c)})
		want := strings.Contains(letters, b)
		for _, s := range []string{b, b + "a", "a" + b, "a" + b + "0", "abcdefghijk" + b, b + "abcdefghijk", "abcde" + b + "ghijkl"} {
			if got := impl.NameOk(s); got != want {
				t.Errorf("NameOk(%q) = %v, want %v", s, got, want)
			}
		}
	}
}

func TestNameOkLengths(t *testing.T) {
	for n := range 300 {
		if got := impl.NameOk(strings.Repeat("a", n)); got != (n >= 1 && n <= 12) {
			t.Errorf("NameOk of %d letters = %v", n, got)
		}
	}
}

// TestTextResultsAreNew overwrites results, also behind their end, and expects
// that neither earlier nor later results of the same call show it.
func TestTextResultsAreNew(t *testing.T) {
	calls := map[string]func(string) []string{"Lines": impl.Lines, "Words": impl.Words}
	for name, call := range calls {
		for _, s := range []string{"", "a", "a\nb\nc", " a b\tc ", "a b\nc d\n"} {
			first := call(s)
			want := slices.Clone(first)
			second := call(s)
			full := second[:cap(second)]
			for i := range full {
				full[i] = "other"
			}
			if !slices.Equal(first, want) || !slices.Equal(call(s), want) {
				t.Errorf("%s(%q) shares its result between calls", name, s)
			}
		}
	}
}
