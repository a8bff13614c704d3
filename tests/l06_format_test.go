package tests

import (
	"encoding/binary"
	"maps"
	"math"
	"slices"
	"strings"
	"testing"

	"loop.example/g00772/impl"
)

// otherVersions are versions that no format has.
var otherVersions = []int{0, -1, -2, -3, 4, 5, 7, 70, 255, 256, 257, 258, 259, 1<<32 + 1, 1<<32 + 3, math.MinInt64, math.MinInt64 + 1, math.MaxInt64 - 1, math.MaxInt64}

// textBytes is the tests' own PutText; of a longer text it counts the bytes
// modulo 65536.
func textBytes(s string) string {
	return string(binary.BigEndian.AppendUint16(nil, uint16(len(s)))) + s
}

func countBytes(n int) string { return string(binary.BigEndian.AppendUint16(nil, uint16(n))) }

func itemBytes(x impl.Item) string { return textBytes(x.Key) + textBytes(x.Value) }

func talkBytes(x impl.Talk) string {
	return textBytes(x.Client) + string(binary.BigEndian.AppendUint32(nil, uint32(x.Seq))) + textBytes(x.Reply)
}

// sealedRight returns s with its checksum.
func sealedRight(s string) string { return sealedAs(s, castagnoli(s)) }

// bodyOf is the tests' own Encode without the seal of version 3. It also lays
// out what is invalid.
func bodyOf(s impl.State, version int) string {
	body := "F" + string([]byte{byte(version)}) + countBytes(len(s.Items))
	for _, x := range s.Items {
		body += itemBytes(x)
	}
	if version == 1 {
		return body
	}
	body += countBytes(len(s.Talks))
	for _, x := range s.Talks {
		body += talkBytes(x)
	}
	return body
}

// closedAs returns the body as version ends it: sealed in version 3.
func closedAs(body string, version int) string {
	if version == 3 {
		return sealedRight(body)
	}
	return body
}

// encodeOf is the tests' own Encode, also of what is invalid.
func encodeOf(s impl.State, version int) string { return closedAs(bodyOf(s, version), version) }

// keptOf returns what version keeps of s.
func keptOf(s impl.State, version int) impl.State {
	if version == 1 {
		return impl.State{Items: s.Items}
	}
	return s
}

// scanner is a strict reader for the tests' own Decode.
type scanner struct {
	rest   string
	failed bool
}

func (c *scanner) take(n int) string {
	if n > len(c.rest) {
		c.failed = true
		return strings.Repeat("\x00", n)
	}
	taken := c.rest[:n]
	c.rest = c.rest[n:]
	return taken
}

func (c *scanner) count() int { return int(binary.BigEndian.Uint16([]byte(c.take(2)))) }

func (c *scanner) text() string { return c.take(c.count()) }

func (c *scanner) seq() int { return int(binary.BigEndian.Uint32([]byte(c.take(4)))) }

// decodeOf is the tests' own Decode.
func decodeOf(s string) (impl.State, int) {
	if len(s) < 2 || s[0] != 'F' || s[1] < 1 || s[1] > 3 {
		return impl.State{}, 0
	}
	version := int(s[1])
	body := s
	if version == 3 {
		body = s[:max(len(s)-4, 2)]
		if s != sealedRight(body) {
			return impl.State{}, 0
		}
	}
	c := &scanner{rest: body[2:]}
	var state impl.State
	for n := c.count(); n > 0 && !c.failed; n-- {
		key := c.text()
		state.Items = append(state.Items, impl.Item{Key: key, Value: c.text()})
	}
	if version > 1 {
		for n := c.count(); n > 0 && !c.failed; n-- {
			client, seq := c.text(), c.seq()
			state.Talks = append(state.Talks, impl.Talk{Client: client, Seq: seq, Reply: c.text()})
		}
	}
	if c.failed || c.rest != "" || !impl.StateOk(state) {
		return impl.State{}, 0
	}
	return state, version
}

// flipped returns s with these bits inverted.
func flipped(s string, bits ...int) string {
	changed := []byte(s)
	for _, bit := range bits {
		changed[bit/8] ^= 1 << (bit % 8)
	}
	return string(changed)
}

func checkEncode(t *testing.T, what string, s impl.State, version int, want string) {
	t.Helper()
	if got := impl.Encode(s, version); got != want {
		t.Errorf("%.60q: Encode in version %d = %.200q, want %.200q", what, version, got, want)
	}
}

// checkDecode also checks VersionOf, and that an accepted text is what Encode
// writes of the state.
func checkDecode(t *testing.T, what string, s string, want impl.State, version int) {
	t.Helper()
	got, gotVersion := impl.Decode(s)
	if gotVersion != version || impl.VersionOf(s) != version {
		t.Errorf("%.60q: Decode(%.200q) has version %d, VersionOf %d, want %d", what, s, gotVersion, impl.VersionOf(s), version)
	}
	checkState(t, what, got, want)
	if gotVersion != 0 && impl.Encode(got, gotVersion) != s {
		t.Errorf("%.60q: Encode does not write %.200q", what, s)
	}
}

func checkNotDecoded(t *testing.T, what string, s string) {
	t.Helper()
	checkDecode(t, what, s, impl.State{}, 0)
	for _, version := range []int{1, 2, 3} {
		checkUpgrade(t, what, s, version, "")
	}
}

// checkLikeModel decodes s as decodeOf does, and tells whether it is accepted.
func checkLikeModel(t *testing.T, what string, s string) bool {
	t.Helper()
	want, version := decodeOf(s)
	checkDecode(t, what, s, want, version)
	return version != 0
}

// checkUpgrade expects the text want, or a failure if that is empty.
func checkUpgrade(t *testing.T, what string, s string, version int, want string) {
	t.Helper()
	if got, ok := impl.Upgrade(s, version); got != want || ok != (want != "") {
		t.Errorf("%.60q: Upgrade(%.200q, %d) = %.200q, %v, want %.200q", what, s, version, got, ok, want)
	}
}

// formatStates returns valid states at the limits of every field, some with
// bytes that occur in the layouts themselves.
func formatStates() map[string]impl.State {
	states := validStates()
	longer := impl.State{}
	for i := range 40 {
		longer.Items = append(longer.Items, impl.Item{Key: "abcdefgh" + numberedName(i), Value: longest})
	}
	for i := range 20 {
		longer.Talks = append(longer.Talks, impl.Talk{Client: "abcdefgh" + numberedName(i), Seq: 1000000000, Reply: longest})
	}
	states["greatest"] = longer
	states["layout bytes"] = impl.State{
		Items: []impl.Item{{Key: "f", Value: "F\x03\x00\x00\x00\x00"}, {Key: "g", Value: "\x00\x01\x00\x01a\x00\x00"}},
		Talks: []impl.Talk{{Client: "f", Seq: 1, Reply: "\x00\x01"}, {Client: "g", Seq: 1 << 24, Reply: sealedRight("F\x03")}},
	}
	for _, seq := range []int{1, 255, 256, 258, 65535, 65536, 1<<24 - 1, 1 << 24, 999999999, 1000000000} {
		states["seq "+impl.DecText(seq)] = talksOf("ann", seq, "r")
	}
	return states
}

func TestEncode(t *testing.T) {
	s := impl.State{
		Items: []impl.Item{{Key: "a", Value: "xy"}, {Key: "b7"}},
		Talks: []impl.Talk{{Client: "ann", Seq: 16909060, Reply: "r"}, {Client: "bob", Seq: 1}},
	}
	items := "\x00\x02\x00\x01a\x00\x02xy\x00\x02b7\x00\x00"
	talks := "\x00\x02\x00\x03ann\x01\x02\x03\x04\x00\x01r\x00\x03bob\x00\x00\x00\x01\x00\x00"
	checkEncode(t, "two of each", s, 1, "F\x01"+items)
	checkEncode(t, "two of each", s, 2, "F\x02"+items+talks)
	checkEncode(t, "two of each", s, 3, sealedRight("F\x03"+items+talks))
	checkEncode(t, "zero", impl.State{}, 1, "F\x01\x00\x00")
	checkEncode(t, "zero", impl.State{}, 2, "F\x02\x00\x00\x00\x00")
	checkEncode(t, "zero", impl.State{}, 3, sealedRight("F\x03\x00\x00\x00\x00"))
	checkEncode(t, "last seq", talksOf("c", 1000000000, ""), 2, "F\x02\x00\x00\x00\x01\x00\x01c\x3b\x9a\xca\x00\x00\x00")
}

func TestEncodeEveryVersion(t *testing.T) {
	for what, s := range formatStates() {
		for _, version := range []int{1, 2, 3} {
			checkEncode(t, what, s, version, encodeOf(s, version))
		}
	}
}

func TestEncodeRejects(t *testing.T) {
	for what, s := range formatStates() {
		for _, version := range otherVersions {
			checkEncode(t, what, s, version, "")
		}
	}
	// Version 1 too writes no state with invalid talks, although it omits them.
	for what, s := range invalidStates() {
		for _, version := range append([]int{1, 2, 3}, otherVersions...) {
			checkEncode(t, what, s, version, "")
		}
	}
}

func TestDecode(t *testing.T) {
	items := impl.State{Items: []impl.Item{{Key: "a", Value: "xy"}, {Key: "b7"}}}
	both := impl.State{Items: items.Items, Talks: []impl.Talk{{Client: "ann", Seq: 16909060, Reply: "r"}}}
	body := "\x00\x02\x00\x01a\x00\x02xy\x00\x02b7\x00\x00"
	talk := "\x00\x01\x00\x03ann\x01\x02\x03\x04\x00\x01r"
	checkDecode(t, "version 1", "F\x01"+body, items, 1)
	checkDecode(t, "version 2", "F\x02"+body+talk, both, 2)
	checkDecode(t, "version 3", sealedRight("F\x03"+body+talk), both, 3)
	checkDecode(t, "version 2 without talks", "F\x02"+body+"\x00\x00", items, 2)
	checkDecode(t, "version 3 without talks", sealedRight("F\x03"+body+"\x00\x00"), items, 3)
	checkDecode(t, "only talks", "F\x02\x00\x00"+talk, impl.State{Talks: both.Talks}, 2)
	checkDecode(t, "zero 1", "F\x01\x00\x00", impl.State{}, 1)
	checkDecode(t, "zero 2", "F\x02\x00\x00\x00\x00", impl.State{}, 2)
	checkDecode(t, "zero 3", sealedRight("F\x03\x00\x00\x00\x00"), impl.State{}, 3)
}

// TestStatesAreRecovered checks the first part of promise 6.
func TestStatesAreRecovered(t *testing.T) {
	states := formatStates()
	for start := range uint32(200) {
		states["some "+impl.DecText(int(start))] = someState(start)
	}
	for what, s := range states {
		for _, version := range []int{1, 2, 3} {
			checkDecode(t, what, impl.Encode(s, version), keptOf(s, version), version)
		}
		got, _ := impl.Decode(impl.Encode(s, 1))
		if len(got.Talks) != 0 || !slices.Equal(got.Items, s.Items) {
			t.Errorf("%.60q: version 1 keeps %.200v", what, got)
		}
	}
}

func TestDecodeRejects(t *testing.T) {
	rows := []string{"", "F", "\x01", "F\x01", "F\x02", "F\x03", "F\x01\x00", "F\x02\x00\x00", "F\x02\x00\x00\x00", "F\x03\x00\x00\x00\x00", "junk",
		"\x01F\x00\x00", "FF\x00\x00", "F1\x00\x00", "F\x00\x00\x00", "F\x04\x00\x00", "F\x04\x00\x00\x00\x00", "F\x81\x00\x00", "F\xff\x00\x00",
		"F\x01\x01\x00", "F\x01\x00\x01", "F\x01\x00\x00\x00", "F\x01\x00\x00\x00\x00", "F\x01\xff\xff", "F\x02\xff\xff\xff\xff", sealedRight(""), sealedRight("F"), sealedRight("F\x03"), sealedRight("F\x03\x00\x00"), sealedRight("\x00\x00\x00\x00")}
	for _, s := range rows {
		checkNotDecoded(t, s, s)
	}
	for _, version := range []byte{0, 4, 5, 255} {
		body := "F" + string([]byte{version}) + "\x00\x00\x00\x00"
		checkNotDecoded(t, "no such version", body)
		checkNotDecoded(t, "no such version, sealed", sealedRight(body))
	}
}

// TestDecodeCut cuts texts at every place, the last version also inside its seal.
func TestDecodeCut(t *testing.T) {
	for what, s := range formatStates() {
		for _, version := range []int{1, 2, 3} {
			text, body := encodeOf(s, version), bodyOf(s, version)
			for n := range len(text) {
				checkDecode(t, what, text[:n], impl.State{}, 0)
			}
			for n := range len(body) {
				checkDecode(t, what, closedAs(body[:n], version), impl.State{}, 0)
			}
			for n := 1; n < len(text); n++ {
				checkDecode(t, what, text[n:], impl.State{}, 0)
			}
		}
	}
}

func TestDecodeMoreBytes(t *testing.T) {
	more := []string{"\x00", "\x01", "x", "\xff", "F", "\x00\x00", "\x00\x01\x00\x01z\x00\x00", "\x00\x01z\x00\x00", "\x00\x01z\x00\x00\x00\x01\x00\x00", strings.Repeat("\x00", 1000)}
	for what, s := range formatStates() {
		for _, version := range []int{1, 2, 3} {
			text, body := encodeOf(s, version), bodyOf(s, version)
			for _, bytes := range append(more, text) {
				checkDecode(t, what, text+bytes, impl.State{}, 0)
				checkDecode(t, what, bytes+text, impl.State{}, 0)
				checkDecode(t, what, closedAs(body+bytes, version), impl.State{}, 0)
			}
			checkDecode(t, what, sealedRight(text), impl.State{}, 0)
		}
	}
}

// TestDecodeOtherMark uses every other first byte.
func TestDecodeOtherMark(t *testing.T) {
	for what, s := range formatStates() {
		for _, version := range []int{1, 2, 3} {
			text, body := encodeOf(s, version), bodyOf(s, version)
			for c := range 256 {
				if c != 'F' {
					mark := string([]byte{byte(c)})
					checkDecode(t, what, mark+text[1:], impl.State{}, 0)
					checkDecode(t, what, closedAs(mark+body[1:], version), impl.State{}, 0)
				}
			}
			checkDecode(t, what, text[1:], impl.State{}, 0)
		}
	}
}

// TestDecodeOtherVersionByte gives the bytes of one version out for those of
// another, with the seal of version 3, a new one and none.
func TestDecodeOtherVersionByte(t *testing.T) {
	for what, s := range formatStates() {
		for _, version := range []int{1, 2, 3} {
			text, body := encodeOf(s, version), bodyOf(s, version)
			for c := range 256 {
				if c == version {
					continue
				}
				mark := "F" + string([]byte{byte(c)})
				checkDecode(t, what, mark+text[2:], impl.State{}, 0)
				checkLikeModel(t, what, mark+body[2:])
				checkLikeModel(t, what, sealedRight(mark+body[2:]))
			}
		}
		// The bytes of versions 2 and 3 differ only in the version and the seal.
		checkDecode(t, what, "F\x02"+bodyOf(s, 3)[2:], s, 2)
		checkDecode(t, what, sealedRight("F\x03"+bodyOf(s, 2)[2:]), s, 3)
		checkDecode(t, what, sealedRight("F\x02"+bodyOf(s, 2)[2:]), impl.State{}, 0)
		checkDecode(t, what, sealedRight("F\x01"+bodyOf(s, 1)[2:]), impl.State{}, 0)
	}
}

// TestDecodeCounts changes the numbers of items and talks, with the rows as they
// were.
func TestDecodeCounts(t *testing.T) {
	for _, counts := range [][]int{{0, 0}, {1, 0}, {0, 1}, {1, 1}, {3, 2}, {39, 19}, {40, 20}} {
		s := stateOf(counts[0], counts[1])
		for _, version := range []int{1, 2, 3} {
			body := bodyOf(s, version)
			talksAt := len(bodyOf(s, 1))
			for _, n := range []int{0, 1, 2, 3, 4, 18, 19, 20, 21, 38, 39, 40, 41, 42, 255, 256, 257, 296, 512, 32767, 65535} {
				if n != counts[0] {
					checkDecode(t, "items", closedAs(body[:2]+countBytes(n)+body[4:], version), impl.State{}, 0)
				}
				if n != counts[1] && version > 1 {
					checkDecode(t, "talks", closedAs(body[:talksAt]+countBytes(n)+body[talksAt+2:], version), impl.State{}, 0)
				}
			}
		}
	}
}

// TestDecodeSeal changes the bits of version 3, and its seal as a whole.
func TestDecodeSeal(t *testing.T) {
	for _, s := range []impl.State{{}, stateOf(2, 1), stateOf(0, 2)} {
		text, body := encodeOf(s, 3), bodyOf(s, 3)
		for first := range 8 * len(text) {
			checkDecode(t, "a changed bit", flipped(text, first), impl.State{}, 0)
			for second := range first {
				changed := flipped(text, first, second)
				// Where one of the bits makes version 2 of it, the other one may make
				// the seal a part of the last reply.
				if changed[1] != 3 {
					checkLikeModel(t, "a changed version", changed)
				} else if _, version := impl.Decode(changed); version != 0 {
					t.Errorf("%q is sealed with the bits %d and %d changed", text, first, second)
				}
			}
		}
		sum := castagnoli(body)
		bigEndian := string(binary.BigEndian.AppendUint32([]byte(body), sum))
		for _, other := range []string{body, bigEndian, sealedAs(body, sum+1), sealedAs(body, ^sum), sealedAs(body, 0), sealedRight(text), body + text[len(body):len(body)+3]} {
			checkNotDecoded(t, "another seal", other)
		}
	}
}

// TestDecodeInvalidStates writes states that are invalid as far as the version
// keeps them.
func TestDecodeInvalidStates(t *testing.T) {
	rejected := map[int]int{}
	for what, s := range invalidStates() {
		for _, version := range []int{1, 2, 3} {
			text := encodeOf(s, version)
			if impl.StateOk(keptOf(s, version)) {
				checkDecode(t, what, text, keptOf(s, version), version)
				continue
			}
			rejected[version]++
			checkNotDecoded(t, what, text)
		}
	}
	if rejected[1] < 30 || rejected[2] != len(invalidStates()) || rejected[3] != rejected[2] {
		t.Errorf("of %d invalid states are rejected: %v", len(invalidStates()), rejected)
	}
}

func TestDecodeInvalidRows(t *testing.T) {
	one, two := "\x00\x01", "\x00\x02"
	value := func(n int) string { return textBytes(strings.Repeat("v", n)) }
	badItems := map[string]string{
		"keys descend":       two + "\x00\x01b\x00\x00\x00\x01a\x00\x00",
		"a key twice":        two + "\x00\x01a\x00\x00\x00\x01a\x00\x00",
		"two values":         two + "\x00\x01a\x00\x01x\x00\x01a\x00\x01y",
		"prefix behind":      two + "\x00\x02aa\x00\x00\x00\x01a\x00\x00",
		"empty key":          one + "\x00\x00\x00\x00",
		"upper-case key":     one + "\x00\x01A\x00\x00",
		"key of 13 bytes":    one + textBytes("abcdefghijklm") + "\x00\x00",
		"value of 61 bytes":  one + "\x00\x01a" + value(61),
		"value of 256 bytes": one + "\x00\x01a" + value(256),
		"key without value":  one + "\x00\x01a",
		"long length":        one + "\x00\x01a\xff\xff",
	}
	for what, items := range badItems {
		checkNotDecoded(t, what, "F\x01"+items)
		checkNotDecoded(t, what, "F\x02"+items+"\x00\x00")
		checkNotDecoded(t, what, sealedRight("F\x03"+items+"\x00\x00"))
	}
	seq := "\x00\x00\x00\x01"
	badTalks := map[string]string{
		"clients descend":    two + "\x00\x01b" + seq + "\x00\x00\x00\x01a" + seq + "\x00\x00",
		"a client twice":     two + "\x00\x01a" + seq + "\x00\x00\x00\x01a" + seq + "\x00\x00",
		"number 0":           one + "\x00\x01a\x00\x00\x00\x00\x00\x00",
		"number 1000000001":  one + "\x00\x01a\x3b\x9a\xca\x01\x00\x00",
		"number 2147483648":  one + "\x00\x01a\x80\x00\x00\x00\x00\x00",
		"number 4294967295":  one + "\x00\x01a\xff\xff\xff\xff\x00\x00",
		"empty client":       one + "\x00\x00" + seq + "\x00\x00",
		"client of 13 bytes": one + textBytes("abcdefghijklm") + seq + "\x00\x00",
		"reply of 61 bytes":  one + "\x00\x01a" + seq + value(61),
		"no reply":           one + "\x00\x01a" + seq,
		"half a number":      one + "\x00\x01a\x00\x01",
		"no number":          one + "\x00\x01a",
	}
	for what, talks := range badTalks {
		checkNotDecoded(t, what, "F\x02\x00\x00"+talks)
		checkNotDecoded(t, what, sealedRight("F\x03\x00\x00"+talks))
	}
	checkDecode(t, "60 bytes", "F\x01"+one+"\x00\x01a"+value(60), impl.State{Items: []impl.Item{{Key: "a", Value: strings.Repeat("v", 60)}}}, 1)
	checkDecode(t, "last number", "F\x02\x00\x00"+one+"\x00\x01a\x3b\x9a\xca\x00\x00\x00", talksOf("a", 1000000000, ""), 2)
}

// TestDecodeTooMany lays out more rows than a state may have.
func TestDecodeTooMany(t *testing.T) {
	for _, counts := range [][]int{{41, 0}, {0, 21}, {41, 20}, {40, 21}, {256, 0}, {0, 256}, {296, 0}, {0, 276}, {500, 500}} {
		s := stateOf(counts[0], counts[1])
		checkNotDecoded(t, "too many", encodeOf(s, 2))
		checkNotDecoded(t, "too many", encodeOf(s, 3))
		if counts[0] > 40 {
			checkNotDecoded(t, "too many", encodeOf(s, 1))
		}
	}
	// The two bytes of a number of more than 65535 rows start again at 0.
	for _, n := range []int{65535, 65536, 65536 + 1} {
		rows := countBytes(n) + strings.Repeat("\x00\x01a\x00\x00", n)
		checkNotDecoded(t, "very many", "F\x01"+rows)
		checkNotDecoded(t, "very many", "F\x02"+rows+"\x00\x00")
		checkNotDecoded(t, "very many", sealedRight("F\x03"+rows+"\x00\x00"))
	}
}

// TestDecodeLikeModel decodes texts with a byte changed, left out or put in, the
// last version with its seal renewed.
func TestDecodeLikeModel(t *testing.T) {
	accepted := 0
	check := func(body string) {
		for _, s := range []string{body, sealedRight(body)} {
			if checkLikeModel(t, "like the model", s) {
				accepted++
			}
		}
	}
	states := []impl.State{{}, itemsOf("a"), talksOf("c", 258, "r"), stateOf(3, 2), formatStates()["layout bytes"]}
	for _, s := range states {
		for _, version := range []int{1, 2, 3} {
			body := bodyOf(s, version)
			for at := range len(body) {
				check(body[:at] + body[at+1:])
				for c := range 256 {
					changed := string([]byte{byte(c)})
					check(body[:at] + changed + body[at+1:])
					check(body[:at] + changed + body[at:])
				}
			}
		}
	}
	if accepted < 1000 {
		t.Errorf("only %d of the changed texts are accepted", accepted)
	}
}

// TestDecodeShortStrings decodes all short strings of the bytes of small layouts.
func TestDecodeShortStrings(t *testing.T) {
	accepted := 0
	for _, version := range []int{1, 2, 3} {
		for _, rest := range shortStrings("\x00\x01a", 8) {
			body := "F" + string([]byte{byte(version)}) + rest
			if checkLikeModel(t, rest, closedAs(body, version)) {
				accepted++
			}
		}
	}
	// The empty state in three versions, and in version 1 the item a with the empty
	// value and with the three values of one byte.
	if accepted != 7 {
		t.Errorf("%d short strings are accepted, want 7", accepted)
	}
}

func TestUpgrade(t *testing.T) {
	one := "F\x01\x00\x01\x00\x01a\x00\x02xy"
	checkUpgrade(t, "1 to 1", one, 1, one)
	checkUpgrade(t, "1 to 2", one, 2, "F\x02\x00\x01\x00\x01a\x00\x02xy\x00\x00")
	checkUpgrade(t, "1 to 3", one, 3, sealedRight("F\x03\x00\x01\x00\x01a\x00\x02xy\x00\x00"))
	two := "F\x02\x00\x00\x00\x01\x00\x03bob\x00\x00\x01\x02\x00\x01r"
	three := sealedRight("F\x03" + two[2:])
	checkUpgrade(t, "2 to 1", two, 1, "")
	checkUpgrade(t, "2 to 2", two, 2, two)
	checkUpgrade(t, "2 to 3", two, 3, three)
	checkUpgrade(t, "3 to 1", three, 1, "")
	checkUpgrade(t, "3 to 2", three, 2, "")
	checkUpgrade(t, "3 to 3", three, 3, three)
}

// TestUpgradeKeepsStates checks the second part of promise 6: a state is the same
// in every later version, and only the talks that version 1 omits are missing.
func TestUpgradeKeepsStates(t *testing.T) {
	for what, s := range formatStates() {
		for from := 1; from <= 3; from++ {
			text := encodeOf(s, from)
			kept := keptOf(s, from)
			for to := 1; to <= 3; to++ {
				if to < from {
					checkUpgrade(t, what, text, to, "")
					continue
				}
				checkUpgrade(t, what, text, to, encodeOf(kept, to))
				later, _ := impl.Upgrade(text, to)
				checkDecode(t, what, later, kept, to)
			}
			for _, to := range otherVersions {
				checkUpgrade(t, what, text, to, "")
			}
		}
	}
}

// TestUpgradeInSteps expects two steps to lead where one does.
func TestUpgradeInSteps(t *testing.T) {
	for what, s := range formatStates() {
		for from := 1; from <= 3; from++ {
			for over := from; over <= 3; over++ {
				between, ok := impl.Upgrade(encodeOf(s, from), over)
				if !ok {
					t.Fatalf("%.60q: Upgrade from %d to %d fails", what, from, over)
				}
				for to := over; to <= 3; to++ {
					atOnce, _ := impl.Upgrade(encodeOf(s, from), to)
					checkUpgrade(t, what, between, to, atOnce)
				}
			}
		}
	}
}

func TestUpgradeRejects(t *testing.T) {
	last := sealedRight("F\x03\x00\x00\x00\x00")
	for _, s := range []string{"", "F", "junk", "F\x01\x00", "F\x04\x00\x00\x00\x00", last[:9], last + "\x00", "F\x03\x00\x00\x00\x00", sealedRight("F\x04\x00\x00\x00\x00"), "F\x01\x00\x01\x00\x01A\x00\x00"} {
		for _, version := range append([]int{1, 2, 3}, otherVersions...) {
			checkUpgrade(t, "no snapshot", s, version, "")
		}
	}
}

func TestVersionOf(t *testing.T) {
	for what, s := range formatStates() {
		for _, version := range []int{1, 2, 3} {
			text := encodeOf(s, version)
			if got := impl.VersionOf(text); got != version {
				t.Errorf("%.60q: VersionOf = %d, want %d", what, got, version)
			}
			if got := impl.VersionOf(text[:len(text)-1]); got != 0 {
				t.Errorf("%.60q: VersionOf without the last byte = %d", what, got)
			}
		}
	}
	for _, s := range []string{"", "F", "F\x00", "F\x03", "F\x02\x00\x00", "F\x03\x00\x00\x00\x00"} {
		if got := impl.VersionOf(s); got != 0 {
			t.Errorf("VersionOf(%q) = %d", s, got)
		}
	}
}

// formatCalls returns calls that encode the state and decode it again, in vain
// for a version that there is not.
func formatCalls() map[string]func(impl.State) impl.State {
	calls := map[string]func(impl.State) impl.State{}
	for version := range 5 {
		calls["Encode "+impl.DecText(version)] = func(s impl.State) impl.State {
			next, _ := impl.Decode(impl.Encode(s, version))
			return next
		}
		calls["Upgrade from "+impl.DecText(version)] = func(s impl.State) impl.State {
			text, _ := impl.Upgrade(impl.Encode(s, version), 3)
			next, _ := impl.Decode(text)
			return next
		}
	}
	return calls
}

func TestFormatsDoNotChangeStates(t *testing.T) { checkStatesStay(t, formatCalls()) }

// TestDecodedStatesShareNothing overwrites one state and expects the text and
// another state of it as they were.
func TestDecodedStatesShareNothing(t *testing.T) {
	for what, s := range formatStates() {
		for _, version := range []int{1, 2, 3} {
			given := []byte(encodeOf(s, version))
			text := string(given)
			first, _ := impl.Decode(text)
			second, _ := impl.Decode(text)
			overwrite(first)
			if text != string(given) {
				t.Errorf("%.60q: the text of version %d is changed", what, version)
			}
			checkState(t, what+": another state", second, keptOf(s, version))
			checkDecode(t, what, text, keptOf(s, version), version)
		}
	}
}

func TestFormatsAreDeterministic(t *testing.T) {
	for what, s := range formatStates() {
		for _, version := range []int{1, 2, 3} {
			text := impl.Encode(s, version)
			for range 10 {
				checkEncode(t, what, copied(s), version, text)
				checkDecode(t, what, strings.Clone(text), keptOf(s, version), version)
				checkUpgrade(t, what, text, 3, encodeOf(keptOf(s, version), 3))
			}
		}
	}
}

func FuzzDecode(f *testing.F) {
	for _, s := range slices.Collect(maps.Values(validStates())) {
		for _, version := range []int{1, 2, 3} {
			f.Add(bodyOf(s, version), version)
		}
	}
	f.Fuzz(func(t *testing.T, body string, version int) {
		for _, s := range []string{body, sealedRight(body)} {
			if checkLikeModel(t, "fuzz", s) {
				_, ok := impl.Upgrade(s, version)
				if want := version >= impl.VersionOf(s) && version <= 3; ok != want {
					t.Errorf("Upgrade(%q, %d) = %v, want %v", s, version, ok, want)
				}
			}
		}
	})
}
