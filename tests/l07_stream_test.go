package tests

import (
	"encoding/binary"
	"hash/fnv"
	"math"
	"slices"
	"strconv"
	"strings"
	"testing"

	"loop.example/g00772/impl"
)

// otherSizes are sizes that no piece has.
var otherSizes = []int{7, 6, 1, 0, -1, -7, -8, -200, 201, 202, 255, 256, 264, 600, 1000, 1<<16 + 8, 1<<32 + 8, math.MinInt64, math.MinInt64 + 8, math.MaxInt64 - 200, math.MaxInt64 - 1, math.MaxInt64}

// someSizes are sizes that pieces have.
var someSizes = []int{8, 9, 13, 16, 64, 100, 199, 200}

func fourBytes(n int) string { return string(binary.BigEndian.AppendUint32(nil, uint32(n))) }

// pieceBytes is the tests' own PutPiece without the seal. It also lays out what
// is invalid, each number modulo the values of its bytes.
func pieceBytes(p impl.Piece) string {
	return "P" + countBytes(p.No) + countBytes(p.Of) + textBytes(p.Bytes) + fourBytes(p.Chain)
}

// pieceOk is the tests' own PieceOk.
func pieceOk(p impl.Piece) bool {
	return p.No >= 1 && p.No <= p.Of && p.Of <= 600 && p.Bytes != "" && len(p.Bytes) <= 200 && p.Chain >= 0 && p.Chain <= 4294967295
}

// pieceOf is the tests' own GetPiece.
func pieceOf(s string) (impl.Piece, bool) {
	if len(s) < 4 || s != sealedRight(s[:len(s)-4]) {
		return impl.Piece{}, false
	}
	c := &scanner{rest: s[:len(s)-4]}
	mark := c.take(1)
	no, of := c.count(), c.count()
	bytes := c.text()
	p := impl.Piece{No: no, Of: of, Bytes: bytes, Chain: c.seq()}
	if mark != "P" || c.failed || c.rest != "" || !pieceOk(p) {
		return impl.Piece{}, false
	}
	return p, true
}

// linkOf is the tests' own Link.
func linkOf(chain int, bytes string) int {
	h := fnv.New32a()
	if chain >= 0 {
		h.Write([]byte(fourBytes(chain)))
	}
	h.Write([]byte(bytes))
	return int(h.Sum32())
}

// piecesOf returns the chained pieces with these bytes, however many each has.
func piecesOf(parts ...string) []impl.Piece {
	chain := 2166136261
	var list []impl.Piece
	for i, bytes := range parts {
		chain = linkOf(chain, bytes)
		list = append(list, impl.Piece{No: i + 1, Of: len(parts), Bytes: bytes, Chain: chain})
	}
	return list
}

// streamOf returns the bytes of each piece, sealed.
func streamOf(pieces []impl.Piece) []string {
	var list []string
	for _, p := range pieces {
		list = append(list, sealedRight(pieceBytes(p)))
	}
	return list
}

// partsOf returns the consecutive parts of s with size bytes.
func partsOf(s string, size int) []string {
	var parts []string
	for len(s) > size {
		parts = append(parts, s[:size])
		s = s[size:]
	}
	return append(parts, s)
}

// cutOf is the tests' own Cut.
func cutOf(s string, size int) []string {
	if s == "" || size < 8 || size > 200 {
		return nil
	}
	parts := partsOf(s, size)
	if len(parts) > 600 {
		return nil
	}
	return streamOf(piecesOf(parts...))
}

// importOf is the tests' own Import.
func importOf(list []string) (impl.State, int) {
	if len(list) == 0 {
		return impl.State{}, 1
	}
	chain, text := 2166136261, ""
	for i, s := range list {
		p, ok := pieceOf(s)
		if !ok {
			return impl.State{}, 2
		}
		if p.No != i+1 || p.Of != len(list) {
			return impl.State{}, 3
		}
		chain = linkOf(chain, p.Bytes)
		if p.Chain != chain {
			return impl.State{}, 4
		}
		text += p.Bytes
	}
	s, version := decodeOf(text)
	if version == 0 {
		return impl.State{}, 5
	}
	return s, 0
}

// brief returns p with the beginning of its bytes in quotes, to be printed.
func brief(p impl.Piece) impl.Piece {
	p.Bytes = strconv.Quote(p.Bytes[:min(len(p.Bytes), 40)])
	return p
}

// checkGetPiece reads s as pieceOf does, and tells whether it is a piece.
func checkGetPiece(t *testing.T, what string, s string) bool {
	t.Helper()
	want, wantOk := pieceOf(s)
	got, ok := impl.GetPiece(s)
	if got != want || ok != wantOk {
		t.Errorf("%s: GetPiece(%.100q) = %v, %v, want %v, %v", what, s, brief(got), ok, brief(want), wantOk)
	}
	if ok && impl.PutPiece(got) != s {
		t.Errorf("%s: PutPiece does not write %.100q", what, s)
	}
	return ok
}

func checkNoPiece(t *testing.T, what string, s string) {
	t.Helper()
	if got, ok := impl.GetPiece(s); ok || got != (impl.Piece{}) {
		t.Errorf("%s: GetPiece(%.100q) = %v, %v", what, s, brief(got), ok)
	}
}

// checkCut compares Cut with cutOf and returns what it gives.
func checkCut(t *testing.T, s string, size int) []string {
	t.Helper()
	got, want := impl.Cut(s, size), cutOf(s, size)
	if !slices.Equal(got, want) {
		t.Errorf("Cut of %d bytes in pieces of %d has %d pieces, want %d: %.200q, want %.200q", len(s), size, len(got), len(want), got, want)
	}
	return got
}

func checkImport(t *testing.T, what string, list []string, want impl.State, code int) {
	t.Helper()
	got, gotCode := impl.Import(list)
	if gotCode != code {
		t.Errorf("%.60q: Import of %d pieces = %d, want %d", what, len(list), gotCode, code)
	}
	checkState(t, what, got, want)
}

// checkNotImported expects the zero State and that code.
func checkNotImported(t *testing.T, what string, list []string, code int) {
	t.Helper()
	checkImport(t, what, list, impl.State{}, code)
}

// checkImportLikeModel imports list as importOf does, and returns the code.
func checkImportLikeModel(t *testing.T, what string, list []string) int {
	t.Helper()
	want, code := importOf(list)
	checkImport(t, what, list, want, code)
	return code
}

// somePieces returns valid pieces at the limits of every field, some with bytes
// that occur in the layouts themselves.
func somePieces() []impl.Piece {
	var list []impl.Piece
	for _, place := range [][]int{{1, 1}, {1, 2}, {2, 2}, {1, 600}, {600, 600}, {255, 256}, {256, 257}, {258, 515}} {
		for _, bytes := range []string{"a", "\x00", "P", "hello", "P\x00\x01\x00\x01\x00\x01a\x00\x00\x00\x00", strings.Repeat("\xff", 199), someBytes(200, 21)} {
			for _, chain := range []int{0, 1, 255, 258, 16909060, 2166136261, 4294967294, 4294967295} {
				list = append(list, impl.Piece{No: place[0], Of: place[1], Bytes: bytes, Chain: chain})
			}
		}
	}
	return list
}

func TestStreamConstants(t *testing.T) {
	if impl.MinPiece != 8 || impl.MaxPiece != 200 || impl.MaxPieces != 600 {
		t.Error("a limit of the pieces is wrong")
	}
	codes := []int{impl.ImOk, impl.ImNone, impl.ImPiece, impl.ImOrder, impl.ImChain, impl.ImBytes}
	if !slices.Equal(codes, []int{0, 1, 2, 3, 4, 5}) {
		t.Errorf("the codes are %v", codes)
	}
}

func TestPutPiece(t *testing.T) {
	rows := []struct {
		p    impl.Piece
		body string
	}{
		{impl.Piece{No: 1, Of: 1, Bytes: "a"}, "P\x00\x01\x00\x01\x00\x01a\x00\x00\x00\x00"},
		{impl.Piece{No: 2, Of: 3, Bytes: "hello", Chain: 258}, "P\x00\x02\x00\x03\x00\x05hello\x00\x00\x01\x02"},
		{impl.Piece{No: 258, Of: 515, Bytes: "\x00P", Chain: 16909060}, "P\x01\x02\x02\x03\x00\x02\x00P\x01\x02\x03\x04"},
		{impl.Piece{No: 600, Of: 600, Bytes: strings.Repeat("z", 200), Chain: 4294967295}, "P\x02\x58\x02\x58\x00\xc8" + strings.Repeat("z", 200) + "\xff\xff\xff\xff"},
	}
	for _, row := range rows {
		s := sealedRight(row.body)
		if got := impl.PutPiece(row.p); got != s || !impl.PieceOk(row.p) {
			t.Errorf("PutPiece(%v) = %.60q, want %.60q", brief(row.p), got, s)
		}
		if got, ok := impl.GetPiece(s); got != row.p || !ok {
			t.Errorf("GetPiece(%.60q) = %v, %v", s, brief(got), ok)
		}
	}
	small := impl.PutPiece(impl.Piece{No: 1, Of: 1, Bytes: "a"})
	if small != "P\x00\x01\x00\x01\x00\x01a\x00\x00\x00\x00\xcc\xd0\x5c\x2f" {
		t.Errorf("the smallest piece is %q", small)
	}
}

// TestPieceFields combines values of all fields, inside and outside the limits.
func TestPieceFields(t *testing.T) {
	numbers := []int{0, 1, 2, 3, 299, 599, 600, 601, 65535, 65536, 65537, 1<<32 + 1, -1, -2, -600, math.MinInt64, math.MinInt64 + 1, math.MaxInt64 - 1, math.MaxInt64}
	texts := []string{"", "a", "ab", strings.Repeat("b", 200), strings.Repeat("b", 201), strings.Repeat("b", 256), strings.Repeat("b", 65537)}
	chains := []int{0, 1, 4294967295, 4294967296, 4294967297, -1, math.MinInt64, math.MaxInt64}
	valid := 0
	for _, no := range numbers {
		for _, of := range numbers {
			for _, bytes := range texts {
				for _, chain := range chains {
					if checkPiece(t, impl.Piece{No: no, Of: of, Bytes: bytes, Chain: chain}) {
						valid++
					}
				}
			}
		}
	}
	// Of the six numbers within the limits, 21 pairs have No up to Of.
	if valid != 21*3*3 {
		t.Errorf("%d pieces are valid, want %d", valid, 21*3*3)
	}
}

// checkPiece checks PieceOk and PutPiece of p, and GetPiece of its bytes, and
// tells whether it is valid.
func checkPiece(t *testing.T, p impl.Piece) bool {
	t.Helper()
	ok := pieceOk(p)
	if got := impl.PieceOk(p); got != ok {
		t.Errorf("PieceOk(%v) = %v, want %v", brief(p), got, ok)
	}
	s := sealedRight(pieceBytes(p))
	want := ""
	if ok {
		want = s
	}
	if got := impl.PutPiece(p); got != want {
		t.Errorf("PutPiece(%v) = %.100q, want %.100q", brief(p), got, want)
	}
	checkGetPiece(t, "the bytes of a piece", s)
	return ok
}

func TestPiecesAreRecovered(t *testing.T) {
	for _, p := range somePieces() {
		if got, ok := impl.GetPiece(impl.PutPiece(p)); got != p || !ok {
			t.Errorf("the piece %v is read as %v, %v", brief(p), brief(got), ok)
		}
	}
}

func TestGetPieceRejects(t *testing.T) {
	rows := []string{"", "P", "junk", "\x00", "P\x00\x01\x00\x01\x00\x01a\x00\x00\x00\x00", sealedRight(""), sealedRight("P"), sealedRight("P\x00\x01\x00\x01"), strings.Repeat("P", 100000), strings.Repeat("\x00", 70000), sealedRight("P\x00\x01\x00\x01\xff\xff" + strings.Repeat("a", 65535) + "\x00\x00\x00\x00")}
	for _, s := range rows {
		checkNoPiece(t, "no piece", s)
	}
	chain := "\x00\x00\x00\x00"
	long := strings.Repeat("z", 201)
	bodies := map[string]string{
		"No 0":                  "P\x00\x00\x00\x01\x00\x01a" + chain,
		"No and Of 0":           "P\x00\x00\x00\x00\x00\x01a" + chain,
		"Of 0":                  "P\x00\x01\x00\x00\x00\x01a" + chain,
		"No above Of":           "P\x00\x02\x00\x01\x00\x01a" + chain,
		"No 600 of 599":         "P\x02\x58\x02\x57\x00\x01a" + chain,
		"Of 601":                "P\x00\x01\x02\x59\x00\x01a" + chain,
		"Of 65535":              "P\x00\x01\xff\xff\x00\x01a" + chain,
		"both 65535":            "P\xff\xff\xff\xff\x00\x01a" + chain,
		"no bytes":              "P\x00\x01\x00\x01\x00\x00" + chain,
		"201 bytes":             "P\x00\x01\x00\x01\x00\xc9" + long + chain,
		"one byte less":         "P\x00\x01\x00\x01\x00\x03ab" + chain,
		"one byte more":         "P\x00\x01\x00\x01\x00\x01ab" + chain,
		"no chain":              "P\x00\x01\x00\x01\x00\x01a",
		"a chain of three":      "P\x00\x01\x00\x01\x00\x01a\x00\x00\x00",
		"a chain of five":       "P\x00\x01\x00\x01\x00\x01a" + chain + "\x00",
		"No of one byte":        "P\x01\x00\x01\x00\x01a" + chain,
		"little-endian":         "P\x01\x00\x01\x00\x01\x00a" + chain,
		"another mark":          "F\x00\x01\x00\x01\x00\x01a" + chain,
		"a small letter":        "p\x00\x01\x00\x01\x00\x01a" + chain,
		"no mark":               "\x00\x01\x00\x01\x00\x01a" + chain,
		"two marks":             "PP\x00\x01\x00\x01\x00\x01a" + chain,
		"a piece and a piece":   strings.Repeat("P\x00\x01\x00\x01\x00\x01a"+chain, 2),
		"the bytes of a format": "F\x01\x00\x00",
	}
	for what, body := range bodies {
		checkNoPiece(t, what, body)
		checkNoPiece(t, what, sealedRight(body))
	}
}

// TestGetPieceCut cuts pieces at every place, with and without a new seal.
func TestGetPieceCut(t *testing.T) {
	for _, p := range somePieces() {
		body := pieceBytes(p)
		s := sealedRight(body)
		for n := range len(s) {
			checkNoPiece(t, "cut", s[:n])
			checkNoPiece(t, "its end", s[len(s)-n:])
		}
		for n := range len(body) {
			checkNoPiece(t, "cut and sealed", sealedRight(body[:n]))
		}
	}
}

func TestGetPieceMoreBytes(t *testing.T) {
	more := []string{"\x00", "x", "P", "\x00\x00", "\x00\x00\x00\x00", strings.Repeat("\x00", 1000)}
	for _, p := range somePieces() {
		body := pieceBytes(p)
		s := sealedRight(body)
		for _, bytes := range append(more, s) {
			checkNoPiece(t, "more behind", s+bytes)
			checkNoPiece(t, "more in front", bytes+s)
			checkNoPiece(t, "more behind, sealed", sealedRight(body+bytes))
			checkNoPiece(t, "more in front, sealed", sealedRight(bytes+body))
		}
		checkNoPiece(t, "sealed twice", sealedRight(s))
	}
}

// TestGetPieceOtherMark uses every other first byte.
func TestGetPieceOtherMark(t *testing.T) {
	for _, p := range somePieces() {
		body := pieceBytes(p)
		for c := range 256 {
			if c != 'P' {
				mark := string([]byte{byte(c)})
				checkNoPiece(t, "another mark", mark+sealedRight(body)[1:])
				checkNoPiece(t, "another mark, sealed", sealedRight(mark+body[1:]))
			}
		}
	}
}

// TestGetPieceSeal changes one or two bits of a piece, and its seal as a whole.
func TestGetPieceSeal(t *testing.T) {
	for _, p := range []impl.Piece{{No: 1, Of: 1, Bytes: "a"}, {No: 2, Of: 3, Bytes: "hello", Chain: 258}, {No: 600, Of: 600, Bytes: "F\x01\x00\x00", Chain: 4294967295}} {
		body := pieceBytes(p)
		s := sealedRight(body)
		for first := range 8 * len(s) {
			checkNoPiece(t, "a changed bit", flipped(s, first))
			for second := range first {
				checkNoPiece(t, "two changed bits", flipped(s, first, second))
			}
		}
		sum := castagnoli(body)
		bigEndian := string(binary.BigEndian.AppendUint32([]byte(body), sum))
		for _, other := range []string{body, bigEndian, sealedAs(body, sum+1), sealedAs(body, sum-1), sealedAs(body, ^sum), sealedAs(body, 0)} {
			checkNoPiece(t, "another seal", other)
		}
	}
	long := sealedRight(pieceBytes(impl.Piece{No: 7, Of: 9, Bytes: someBytes(200, 22), Chain: 5}))
	for bit := range 8 * len(long) {
		checkNoPiece(t, "a changed bit of many", flipped(long, bit))
	}
}

// TestGetPieceLikeModel reads pieces with a byte changed, left out or put in,
// with and without a new seal.
func TestGetPieceLikeModel(t *testing.T) {
	accepted := 0
	check := func(body string) {
		checkGetPiece(t, "like the model", body)
		if checkGetPiece(t, "like the model, sealed", sealedRight(body)) {
			accepted++
		}
	}
	for _, p := range []impl.Piece{{No: 1, Of: 1, Bytes: "a"}, {No: 2, Of: 600, Bytes: "hello", Chain: 258}, {No: 255, Of: 256, Bytes: "\x00\x01\x00\x01", Chain: 4294967295}, {No: 3, Of: 4, Bytes: someBytes(200, 23)}} {
		body := pieceBytes(p)
		for at := range len(body) {
			check(body[:at] + body[at+1:])
			for c := range 256 {
				changed := string([]byte{byte(c)})
				check(body[:at] + changed + body[at+1:])
				check(body[:at] + changed + body[at:])
			}
		}
	}
	if accepted < 50000 {
		t.Errorf("only %d of the changed pieces are accepted", accepted)
	}
}

func TestLink(t *testing.T) {
	rows := []struct {
		chain int
		bytes string
		want  int
	}{
		{0, "", 0x4b95f515}, {2166136261, "", impl.Hash("\x81\x1c\x9d\xc5")}, {2166136261, "ab", impl.Hash("\x81\x1c\x9d\xc5ab")},
		{1, "a", impl.Hash("\x00\x00\x00\x01a")}, {258, "a", impl.Hash("\x00\x00\x01\x02a")}, {16909060, "P", impl.Hash("\x01\x02\x03\x04P")},
		{4294967295, "", impl.Hash("\xff\xff\xff\xff")}, {4294967295, "a", impl.Hash("\xff\xff\xff\xffa")},
		{-1, "", 2166136261}, {-1, "ab", impl.Hash("ab")}, {-2, "a", 0xe40c292c}, {-4294967296, "foobar", 0xbf9cf968}, {math.MinInt64, "a", 0xe40c292c},
		{4294967296, "ab", impl.Hash("\x00\x00\x00\x00ab")}, {4294967297, "ab", impl.Hash("\x00\x00\x00\x01ab")}, {math.MaxInt64, "a", impl.Hash("\xff\xff\xff\xffa")},
	}
	for _, row := range rows {
		if got := impl.Link(row.chain, row.bytes); got != row.want {
			t.Errorf("Link(%d, %q) = %#x, want %#x", row.chain, row.bytes, got, row.want)
		}
	}
}

func TestLinkLikeModel(t *testing.T) {
	chains := append(someNumbers(), -1, -2, -255, -4294967296, math.MinInt64, math.MinInt64+1)
	texts := append(shortStrings("\x00P\xff", 2), someBytes(200, 24), someBytes(70000, 25))
	for _, chain := range chains {
		for _, bytes := range texts {
			if got := impl.Link(chain, bytes); got != linkOf(chain, bytes) {
				t.Errorf("Link(%d, %.40q) = %#x, want %#x", chain, bytes, got, linkOf(chain, bytes))
			}
		}
	}
}

func TestCut(t *testing.T) {
	first := impl.Hash("\x81\x1c\x9d\xc5abcdefgh")
	second := impl.Hash(fourBytes(first) + "ijklmnop")
	third := impl.Hash(fourBytes(second) + "q")
	want := []string{
		sealedRight("P\x00\x01\x00\x03\x00\x08abcdefgh" + fourBytes(first)),
		sealedRight("P\x00\x02\x00\x03\x00\x08ijklmnop" + fourBytes(second)),
		sealedRight("P\x00\x03\x00\x03\x00\x01q" + fourBytes(third)),
	}
	if got := impl.Cut("abcdefghijklmnopq", 8); !slices.Equal(got, want) {
		t.Errorf("Cut = %q, want %q", got, want)
	}
	if got := impl.Cut("a", 200); len(got) != 1 || got[0] != sealedRight("P\x00\x01\x00\x01\x00\x01a"+fourBytes(impl.Hash("\x81\x1c\x9d\xc5a"))) {
		t.Errorf("Cut of one byte = %q", got)
	}
}

// TestCutLengths cuts texts with lengths around multiples of the size, up to more
// pieces than there may be.
func TestCutLengths(t *testing.T) {
	s := someBytes(602*200, 26)
	for _, size := range someSizes {
		for _, pieces := range []int{0, 1, 2, 3, 10, 255, 256, 257, 599, 600, 601} {
			for _, more := range []int{-1, 0, 1, size / 2} {
				length := max(pieces*size+more, 0)
				list := checkCut(t, s[:length], size)
				if (len(list) == 0) != (length == 0 || length > 600*size) {
					t.Errorf("Cut of %d bytes in pieces of %d has %d pieces", length, size, len(list))
				}
				checkWhole(t, list, s[:length], size)
			}
		}
	}
}

// checkWhole expects the pieces of list to have all bytes of s, size bytes each
// but for the last one.
func checkWhole(t *testing.T, list []string, s string, size int) {
	t.Helper()
	text := ""
	for i, piece := range list {
		p, ok := impl.GetPiece(piece)
		if !ok || p.No != i+1 || p.Of != len(list) || len(p.Bytes) != size && p.No != p.Of {
			t.Errorf("piece %d of %d is %v", i, len(list), brief(p))
		}
		text += p.Bytes
	}
	if len(list) > 0 && text != s {
		t.Errorf("the %d pieces of %d bytes have %d bytes", len(list), len(s), len(text))
	}
}

func TestCutEverySize(t *testing.T) {
	texts := []string{"", "a", "F\x01\x00\x00", someBytes(200, 27), someBytes(599, 28), strings.Repeat("\x00", 1000)}
	for size := -10; size <= 300; size++ {
		for _, s := range texts {
			list := checkCut(t, s, size)
			if (len(list) > 0) != (s != "" && size >= 8 && size <= 200) {
				t.Errorf("Cut of %d bytes in pieces of %d has %d pieces", len(s), size, len(list))
			}
		}
	}
}

func TestCutRejects(t *testing.T) {
	for _, size := range otherSizes {
		for _, s := range []string{"", "a", "abcdefgh", someBytes(200, 29), someBytes(5000, 30)} {
			if got := impl.Cut(s, size); len(got) != 0 {
				t.Errorf("Cut of %d bytes in pieces of %d has %d pieces", len(s), size, len(got))
			}
		}
	}
	for _, size := range someSizes {
		if got := impl.Cut("", size); len(got) != 0 {
			t.Errorf("Cut of nothing in pieces of %d = %q", size, got)
		}
		if got := impl.Cut(strings.Repeat("a", 10000000), size); len(got) != 0 {
			t.Errorf("Cut of many bytes has %d pieces", len(got))
		}
	}
}

func TestExport(t *testing.T) {
	s := impl.State{Items: []impl.Item{{Key: "a", Value: "1"}}, Talks: []impl.Talk{{Client: "c", Seq: 258, Reply: "r"}}}
	rows := map[int][]string{
		1: {"F\x01\x00\x01\x00\x01a\x00", "\x011"},
		2: {"F\x02\x00\x01\x00\x01a\x00", "\x011\x00\x01\x00\x01c\x00", "\x00\x01\x02\x00\x01r"},
	}
	for version, parts := range rows {
		if got := impl.Export(s, version, 8); !slices.Equal(got, streamOf(piecesOf(parts...))) {
			t.Errorf("Export in version %d = %q", version, got)
		}
	}
	if got := impl.Export(s, 3, 200); !slices.Equal(got, streamOf(piecesOf(sealedRight("F\x03"+strings.Join(rows[2], "")[2:])))) {
		t.Errorf("Export in version 3 = %q", got)
	}
}

func TestExportEveryVersion(t *testing.T) {
	for what, s := range formatStates() {
		for _, version := range []int{1, 2, 3} {
			for _, size := range someSizes {
				got, want := impl.Export(s, version, size), cutOf(encodeOf(s, version), size)
				if !slices.Equal(got, want) || len(got) == 0 {
					t.Errorf("%.60q: Export in version %d in pieces of %d has %d pieces, want %d", what, version, size, len(got), len(want))
				}
			}
		}
	}
}

func TestExportRejects(t *testing.T) {
	check := func(what string, s impl.State, version int, size int) {
		t.Helper()
		if got := impl.Export(s, version, size); len(got) != 0 {
			t.Errorf("%.60q: Export in version %d in pieces of %d has %d pieces", what, version, size, len(got))
		}
	}
	for what, s := range invalidStates() {
		for _, version := range append([]int{1, 2, 3}, otherVersions...) {
			check(what, s, version, 8)
			check(what, s, version, 200)
			check(what, s, version, 7)
		}
	}
	for what, s := range formatStates() {
		for _, version := range otherVersions {
			check(what, s, version, 8)
		}
		for _, size := range otherSizes {
			for _, version := range []int{0, 1, 2, 3, 4} {
				check(what, s, version, size)
			}
		}
	}
}

func TestImport(t *testing.T) {
	s := impl.State{Items: []impl.Item{{Key: "a", Value: "1"}}, Talks: []impl.Talk{{Client: "c", Seq: 258, Reply: "r"}}}
	two := streamOf(piecesOf("F\x02\x00\x01\x00\x01a\x00", "\x011\x00\x01\x00\x01c\x00", "\x00\x01\x02\x00\x01r"))
	checkImport(t, "version 2", two, s, 0)
	checkImport(t, "version 1", streamOf(piecesOf("F\x01\x00\x01\x00\x01a\x00", "\x011")), impl.State{Items: s.Items}, 0)
	checkImport(t, "version 3", streamOf(piecesOf(encodeOf(s, 3))), s, 0)
	checkImport(t, "the empty state", streamOf(piecesOf("F\x01\x00\x00")), impl.State{}, 0)
	checkNotImported(t, "nil", nil, 1)
	checkNotImported(t, "empty", []string{}, 1)
	checkNotImported(t, "empty with spare capacity", two[:0], 1)
	checkNotImported(t, "an empty string", []string{""}, 2)
	checkNotImported(t, "the first ones", two[:2], 3)
	checkNotImported(t, "no format", streamOf(piecesOf("junk")), 5)
}

// TestStatesAreRecoveredFromStreams checks the first part of promise 7.
func TestStatesAreRecoveredFromStreams(t *testing.T) {
	states := formatStates()
	for start := range uint32(30) {
		states["some "+impl.DecText(int(start))] = someState(start)
	}
	for what, s := range states {
		for _, version := range []int{1, 2, 3} {
			for _, size := range someSizes {
				checkImport(t, what, impl.Export(s, version, size), keptOf(s, version), 0)
			}
		}
	}
	for size := 8; size <= 200; size++ {
		checkImport(t, "every size", impl.Export(stateOf(5, 3), 3, size), stateOf(5, 3), 0)
	}
}

// streams returns streams of few and of many pieces in every version.
func streams() map[string][]string {
	all := map[string][]string{}
	for what, s := range map[string]impl.State{"zero": {}, "small": itemsOf("a"), "some": stateOf(3, 2), "full": stateOf(40, 20)} {
		for _, version := range []int{1, 2, 3} {
			for _, size := range []int{8, 50, 200} {
				name := what + " in version " + impl.DecText(version) + " by " + impl.DecText(size)
				all[name] = cutOf(encodeOf(s, version), size)
			}
		}
	}
	return all
}

// TestImportLeftOut leaves out one piece, and cuts streams short on both sides.
func TestImportLeftOut(t *testing.T) {
	for what, list := range streams() {
		for i := range list {
			checkLost(t, what+" without a piece", slices.Delete(slices.Clone(list), i, i+1))
			checkLost(t, what+" cut short", list[:i])
			checkLost(t, what+" without its beginning", list[i+1:])
		}
	}
}

// checkLost imports the rest of a stream that has lost pieces.
func checkLost(t *testing.T, what string, rest []string) {
	t.Helper()
	if len(rest) == 0 {
		checkNotImported(t, what, rest, 1)
	} else {
		checkNotImported(t, what, rest, 3)
	}
}

// TestImportDoubled puts every piece in again, at every place.
func TestImportDoubled(t *testing.T) {
	for what, list := range streams() {
		places := len(list) + 1
		if len(list) > 50 {
			places = 3
		}
		for i := range list {
			for at := range places {
				checkNotImported(t, what+" with a piece twice", slices.Insert(slices.Clone(list), at, list[i]), 3)
			}
			checkNotImported(t, what+" with a piece twice in a row", slices.Insert(slices.Clone(list), i, list[i]), 3)
		}
		checkNotImported(t, what+" twice", slices.Concat(list, list), 3)
	}
}

// TestImportReplaced puts one piece at the place of another one, which is lost.
func TestImportReplaced(t *testing.T) {
	for what, list := range streams() {
		for i := range min(len(list), 20) {
			for k := range list {
				if i != k {
					other := slices.Clone(list)
					other[i] = list[k]
					checkNotImported(t, what+" with a piece for another", other, 3)
					other[k] = list[i]
					checkNotImported(t, what+" with two exchanged", other, 3)
				}
			}
		}
	}
}

// TestImportOtherOrders puts the pieces in every order, and many of them in some.
func TestImportOtherOrders(t *testing.T) {
	s := impl.State{Items: []impl.Item{{Key: "a", Value: strings.Repeat("v", 30)}}}
	for pieces := 2; pieces <= 6; pieces++ {
		list := cutOf(someBytes(8*pieces-1, 32), 8)
		for _, order := range orders(pieces) {
			if slices.IsSorted(order) {
				checkNotImported(t, "the right order of no format", ordered(list, order), 5)
			} else {
				checkNotImported(t, "another order of no format", ordered(list, order), 3)
			}
		}
	}
	list := cutOf(encodeOf(s, 1), 9)
	for _, order := range orders(len(list)) {
		if slices.IsSorted(order) {
			checkImport(t, "the right order", ordered(list, order), s, 0)
		} else {
			checkNotImported(t, "another order", ordered(list, order), 3)
		}
	}
	for what, list := range streams() {
		if len(list) > 1 {
			turned := slices.Clone(list)
			slices.Reverse(turned)
			checkNotImported(t, what+" reversed", turned, 3)
			checkNotImported(t, what+" begun later", slices.Concat(list[1:], list[:1]), 3)
		}
	}
}

// ordered returns the strings in that order.
func ordered(list []string, order []int) []string {
	turned := make([]string, len(list))
	for i, at := range order {
		turned[i] = list[at]
	}
	return turned
}

// TestImportChangedBits changes every bit of every piece.
func TestImportChangedBits(t *testing.T) {
	for _, version := range []int{1, 2, 3} {
		list := cutOf(encodeOf(stateOf(2, 1), version), 16)
		for i := range list {
			for bit := range 8 * len(list[i]) {
				other := slices.Clone(list)
				other[i] = flipped(list[i], bit)
				checkNotImported(t, "a changed bit", other, 2)
			}
			for n := range len(list[i]) {
				other := slices.Clone(list)
				other[i] = list[i][:n]
				checkNotImported(t, "a cut piece", other, 2)
				other[i] = list[i] + list[i][:n+1]
				checkNotImported(t, "a longer piece", other, 2)
			}
		}
	}
}

// TestImportChangedFields changes one field of one piece and seals it anew.
func TestImportChangedFields(t *testing.T) {
	for _, version := range []int{1, 2, 3} {
		pieces := piecesOf(partsOf(encodeOf(stateOf(3, 2), version), 16)...)
		for i, p := range pieces {
			check := func(what string, changed impl.Piece, code int) {
				t.Helper()
				if changed == p {
					return
				}
				if !pieceOk(changed) {
					code = 2
				}
				other := slices.Clone(pieces)
				other[i] = changed
				checkNotImported(t, what, streamOf(other), code)
			}
			for _, n := range []int{0, 1, 2, 3, p.No - 1, p.No + 1, len(pieces) - 1, len(pieces), len(pieces) + 1, 600, 601} {
				check("another No", impl.Piece{No: n, Of: p.Of, Bytes: p.Bytes, Chain: p.Chain}, 3)
				check("another Of", impl.Piece{No: p.No, Of: n, Bytes: p.Bytes, Chain: p.Chain}, 3)
			}
			for bit := range 8 * len(p.Bytes) {
				check("other Bytes", impl.Piece{No: p.No, Of: p.Of, Bytes: flipped(p.Bytes, bit), Chain: p.Chain}, 4)
			}
			for _, bytes := range []string{"", "a", p.Bytes[1:], p.Bytes[:len(p.Bytes)-1], p.Bytes + "\x00", "\x00" + p.Bytes, p.Bytes + p.Bytes, strings.Repeat("a", 201)} {
				check("other Bytes", impl.Piece{No: p.No, Of: p.Of, Bytes: bytes, Chain: p.Chain}, 4)
			}
			for bit := range 32 {
				check("another Chain", impl.Piece{No: p.No, Of: p.Of, Bytes: p.Bytes, Chain: p.Chain ^ 1<<bit}, 4)
			}
			for _, chain := range []int{0, 1, 2166136261, 4294967295, impl.Hash(p.Bytes), linkOf(2166136261, p.Bytes), linkOf(p.Chain, p.Bytes)} {
				check("another Chain", impl.Piece{No: p.No, Of: p.Of, Bytes: p.Bytes, Chain: chain}, 4)
			}
		}
	}
}

// TestImportChainOfItsOwn changes the bytes of one piece and its chain with them,
// so that the next piece tells, or behind the last one the seal of version 3.
func TestImportChainOfItsOwn(t *testing.T) {
	pieces := piecesOf(partsOf(encodeOf(stateOf(3, 2), 3), 16)...)
	chain := 2166136261
	for i, p := range pieces {
		other := slices.Clone(pieces)
		bytes := flipped(p.Bytes, 3)
		other[i] = impl.Piece{No: p.No, Of: p.Of, Bytes: bytes, Chain: linkOf(chain, bytes)}
		if i < len(pieces)-1 {
			checkNotImported(t, "a chain of its own", streamOf(other), 4)
		} else {
			checkNotImported(t, "a chain of its own at the end", streamOf(other), 5)
		}
		chain = p.Chain
	}
}

// TestImportForeignPieces puts pieces of other streams into a stream.
func TestImportForeignPieces(t *testing.T) {
	all := streams()
	for what, list := range all {
		for other, foreign := range all {
			for i := range min(len(list), len(foreign), 20) {
				mixed := slices.Clone(list)
				mixed[i] = foreign[i]
				if slices.Equal(mixed, list) || slices.Equal(mixed, foreign) {
					continue
				}
				name := what + " with a piece of " + other
				if code := checkImportLikeModel(t, name, mixed); code != 3 && code != 4 {
					t.Errorf("%s: the code is %d", name, code)
				}
				checkNotImported(t, name+" put in", slices.Insert(slices.Clone(list), i, foreign[i]), 3)
			}
			checkNotImported(t, what+" and "+other, slices.Concat(list, foreign), 3)
		}
	}
}

// TestImportTwoStreams goes on with the pieces of another stream of as many
// pieces.
func TestImportTwoStreams(t *testing.T) {
	a := cutOf(encodeOf(itemsOf("a", "b", "c", "d"), 2), 8)
	b := cutOf(encodeOf(itemsOf("a", "b", "c", "e"), 2), 8)
	if len(a) != len(b) {
		t.Fatalf("the streams have %d and %d pieces", len(a), len(b))
	}
	rejected := 0
	for n := range len(a) + 1 {
		mixed := slices.Concat(a[:n], b[n:])
		if slices.Equal(mixed, a) || slices.Equal(mixed, b) {
			checkImportLikeModel(t, "one stream", mixed)
			continue
		}
		checkNotImported(t, "two streams", mixed, 4)
		rejected++
	}
	if rejected == 0 {
		t.Error("the streams differ in no two pieces")
	}
}

// TestImportOtherSizes builds streams with pieces of any sizes. The document has
// Import compare the numbers and the chain, and not the sizes.
func TestImportOtherSizes(t *testing.T) {
	s := stateOf(40, 20)
	for _, version := range []int{1, 2, 3} {
		text := encodeOf(s, version)
		for _, start := range []uint32{1, 2, 3} {
			var parts []string
			sizes := someBytes(len(text), start)
			for rest := text; rest != ""; {
				n := min(1+int(sizes[len(rest)-1])%200, len(rest))
				parts = append(parts, rest[:n])
				rest = rest[n:]
			}
			checkImport(t, "pieces of any sizes", streamOf(piecesOf(parts...)), keptOf(s, version), 0)
		}
	}
	small := encodeOf(itemsOf("a"), 3)
	checkImport(t, "pieces of one byte", streamOf(piecesOf(strings.Split(small, "")...)), itemsOf("a"), 0)
	checkImport(t, "pieces of seven bytes", streamOf(piecesOf(partsOf(small, 7)...)), itemsOf("a"), 0)
	checkNotImported(t, "a piece of 201 bytes", streamOf(piecesOf(partsOf(encodeOf(s, 3), 201)...)), 2)
	a, b := cutOf(encodeOf(s, 3), 8), cutOf(encodeOf(s, 3), 9)
	checkNotImported(t, "two sizes", slices.Concat(a[:9], b[8:]), 3)
}

// TestImportMostPieces imports exactly as many pieces as there may be, and more.
func TestImportMostPieces(t *testing.T) {
	s := stateOf(40, 20)
	text := encodeOf(s, 3)
	for _, pieces := range []int{599, 600, 601, 700} {
		parts := append(strings.Split(text[:pieces-8], ""), partsOf(text[pieces-8:], (len(text)-pieces+8+7)/8)...)
		list := streamOf(piecesOf(parts...))
		if len(list) != pieces {
			t.Fatalf("%d pieces, want %d", len(list), pieces)
		}
		if pieces <= 600 {
			checkImport(t, "many pieces", list, s, 0)
		} else {
			checkNotImported(t, "too many pieces", list, 2)
		}
	}
	most := streamOf(piecesOf(strings.Split(strings.Repeat("a", 600), "")...))
	checkNotImported(t, "600 pieces of no format", most, 5)
	checkNotImported(t, "601 pieces", append(slices.Clone(most), most[599]), 3)
	checkNotImported(t, "599 pieces", most[:599], 3)
	checkNotImported(t, "very many pieces", slices.Repeat(most, 100), 3)
	checkNotImported(t, "very many empty strings", make([]string, 100000), 2)
}

// TestImportNoPiece puts strings that are no pieces at every place.
func TestImportNoPiece(t *testing.T) {
	for what, list := range streams() {
		for i := range min(len(list), 20) {
			for _, bad := range []string{"", "P", "junk", list[i][:len(list[i])-4], list[i] + "\x00", sealedRight(list[i]), sealedRight("P\x00\x01\x00\x01\x00\x00\x00\x00\x00\x00")} {
				other := slices.Clone(list)
				other[i] = bad
				checkNotImported(t, what+" with no piece", other, 2)
			}
		}
		// The right pieces in front of it have a wrong number already.
		checkNotImported(t, what+" with no piece behind", append(slices.Clone(list), ""), 3)
		checkNotImported(t, what+" with no piece in front", slices.Insert(slices.Clone(list), 0, ""), 2)
	}
}

// TestImportNoFormat imports right pieces of bytes that are no format.
func TestImportNoFormat(t *testing.T) {
	for what, s := range formatStates() {
		for _, version := range []int{1, 2, 3} {
			text := encodeOf(s, version)
			for _, other := range []string{text[:len(text)-1], text[1:], text + "\x00", "F" + text, text + text, "G" + text[1:], "F\x00" + text[2:], "F\x04" + text[2:]} {
				checkNotImported(t, what+" changed", cutOf(other, 200), 5)
			}
			checkNotImported(t, what+" in pieces in pieces", cutOf(strings.Join(cutOf(text, 200), ""), 200), 5)
		}
		checkNotImported(t, what+" without a seal", cutOf(bodyOf(s, 3), 8), 5)
		checkNotImported(t, what+" with a changed seal", cutOf(flipped(encodeOf(s, 3), 8*len(bodyOf(s, 3))), 8), 5)
	}
	for _, s := range []string{"a", "F", "junk", "F\x01\x00", "F\x04\x00\x00", strings.Repeat("F\x01\x00\x00", 2), strings.Repeat("z", 200*600)} {
		checkNotImported(t, s, cutOf(s, 200), 5)
	}
}

// TestImportInvalidStates imports invalid states, which no format has.
func TestImportInvalidStates(t *testing.T) {
	for what, s := range invalidStates() {
		for _, version := range []int{1, 2, 3} {
			if list := cutOf(encodeOf(s, version), 200); len(list) > 0 {
				checkImportLikeModel(t, what, list)
			}
		}
		if list := cutOf(encodeOf(s, 3), 200); len(list) > 0 {
			checkNotImported(t, what, list, 5)
		}
	}
}

// TestImportFirstCode combines the defects of three pieces and of their bytes, so
// that the first piece with a defect decides, and of its defects the first one.
func TestImportFirstCode(t *testing.T) {
	right := encodeOf(itemsOf("a"), 1)
	for _, text := range []string{right, right + "\x00"} {
		pieces := piecesOf(partsOf(text, (len(text)+2)/3)...)
		if len(pieces) != 3 {
			t.Fatalf("%d pieces", len(pieces))
		}
		var kinds [][]string
		for _, p := range pieces {
			kinds = append(kinds, defectsOf(p))
		}
		for a, first := range kinds[0] {
			for b, second := range kinds[1] {
				for c, third := range kinds[2] {
					code := 0
					for _, kind := range []int{c, b, a} {
						if kind != 0 {
							code = codeOfDefect(kind)
						}
					}
					want := itemsOf("a")
					if code != 0 || text != right {
						want = impl.State{}
					}
					if code == 0 && text != right {
						code = 5
					}
					checkImport(t, "defects "+impl.DecText(100*a+10*b+c), []string{first, second, third}, want, code)
				}
			}
		}
	}
}

// defectsOf returns p as it is and with other defects; the later ones of a piece
// are there too where the code of an earlier one is expected.
func defectsOf(p impl.Piece) []string {
	chain := p.Chain ^ 1
	return append(streamOf([]impl.Piece{
		p,
		{No: p.No, Of: p.Of, Bytes: p.Bytes, Chain: chain},
		{No: p.No, Of: p.Of, Bytes: p.Bytes + "x", Chain: p.Chain},
		{No: p.No%3 + 1, Of: 3, Bytes: p.Bytes, Chain: p.Chain},
		{No: p.No%3 + 1, Of: 3, Bytes: p.Bytes, Chain: chain},
		{No: p.No, Of: 4, Bytes: p.Bytes, Chain: p.Chain},
		{No: p.No, Of: 4, Bytes: p.Bytes, Chain: chain},
		{No: 4, Of: 3, Bytes: p.Bytes, Chain: chain},
	}), flipped(sealedRight(pieceBytes(p)), 9))
}

// codeOfDefect returns the code of what defectsOf returns at that index.
func codeOfDefect(kind int) int { return []int{0, 4, 4, 3, 3, 3, 3, 2, 2}[kind] }

// TestListsOfPiecesStay expects the list of Import as it was, with its spare
// capacity, and two states of one list to share nothing.
func TestListsOfPiecesStay(t *testing.T) {
	lists := streams()
	lists["none"] = nil
	lists["no piece"] = []string{"", "junk"}
	lists["no format"] = cutOf("no format at all", 8)
	for what, list := range lists {
		full := append(slices.Clone(list), "spare1", "spare2", "spare3")
		before := slices.Clone(full)
		given := full[:len(list)]
		first, code := impl.Import(given)
		second, again := impl.Import(given)
		want, wantCode := importOf(list)
		overwrite(first)
		checkState(t, what+": another state", second, want)
		if code != wantCode || again != wantCode || !slices.Equal(full, before) {
			t.Errorf("%s: Import changes its list or has the codes %d and %d", what, code, again)
		}
		for i := range full {
			full[i] = "over"
		}
		checkState(t, what+": the state of a changed list", second, want)
	}
}

// TestCutsShareNothing overwrites one list and expects another one as it was.
func TestCutsShareNothing(t *testing.T) {
	s := stateOf(5, 3)
	for _, length := range []int{0, 1, 8, 9, 100, 4800, 4801} {
		text := someBytes(length, 31)
		for _, cut := range []func() []string{func() []string { return impl.Cut(text, 8) }, func() []string { return impl.Export(s, 3, 8+length%7) }} {
			first, second := cut(), cut()
			want := slices.Clone(second)
			first = first[:cap(first)]
			for i := range first {
				first[i] = "over"
			}
			if !slices.Equal(second, want) || !slices.Equal(cut(), want) {
				t.Errorf("two lists of %d pieces share memory", len(want))
			}
		}
	}
}

// streamCalls returns calls that export the state and import it again, in vain
// for a version or size that there is not.
func streamCalls() map[string]func(impl.State) impl.State {
	calls := map[string]func(impl.State) impl.State{}
	for version := range 5 {
		for _, size := range []int{7, 8, 200} {
			calls["Export in version "+impl.DecText(version)+" by "+impl.DecText(size)] = func(s impl.State) impl.State {
				next, _ := impl.Import(impl.Export(s, version, size))
				return next
			}
		}
	}
	return calls
}

func TestStreamsDoNotChangeStates(t *testing.T) { checkStatesStay(t, streamCalls()) }

func TestStreamsAreDeterministic(t *testing.T) {
	for what, s := range formatStates() {
		list := impl.Export(s, 3, 16)
		for range 5 {
			if !slices.Equal(impl.Export(copied(s), 3, 16), list) {
				t.Errorf("%.60q: Export is not always the same", what)
			}
			checkImport(t, what, slices.Clone(list), s, 0)
		}
	}
}

func FuzzGetPiece(f *testing.F) {
	for _, p := range somePieces() {
		f.Add(pieceBytes(p), p.No, p.Of, p.Chain)
	}
	f.Fuzz(func(t *testing.T, s string, no int, of int, chain int) {
		checkGetPiece(t, "fuzz", s)
		checkGetPiece(t, "fuzz, sealed", sealedRight(s))
		checkPiece(t, impl.Piece{No: no, Of: of, Bytes: s, Chain: chain})
	})
}

func FuzzCut(f *testing.F) {
	for _, size := range []int{7, 8, 9, 200, 201} {
		f.Add(encodeOf(stateOf(3, 2), 3), size)
		f.Add("", size)
		f.Add("junk", size)
	}
	f.Fuzz(func(t *testing.T, s string, size int) {
		list := checkCut(t, s, size)
		checkWhole(t, list, s, size)
		checkImportLikeModel(t, "fuzz", list)
	})
}
