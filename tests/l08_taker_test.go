package tests

import (
	"math"
	"slices"
	"strconv"
	"strings"
	"testing"

	"loop.example/g00772/impl"
)

// emptyChain is the chain of a Taker without pieces.
const emptyChain = 2166136261

// someInts are numbers around 0 and at the ends of the range.
var someInts = []int{0, 1, 2, 7, emptyChain, 4294967295, 4294967296, -1, -2, -emptyChain, math.MinInt64, math.MinInt64 + 1, math.MaxInt64 - 1, math.MaxInt64}

// freshTaker is the tests' own Begin.
func freshTaker() impl.Taker { return impl.Taker{Next: 1, Chain: emptyChain} }

// takerOk is the tests' own TakerOk.
func takerOk(k impl.Taker) bool {
	if k.Of == 0 {
		return k.Next == 1 && k.Chain == emptyChain && k.Bytes == ""
	}
	if k.Of < 1 || k.Of > 600 || k.Chain < 0 || k.Chain > 4294967295 {
		return false
	}
	for next := 2; next <= k.Of+1; next++ {
		if k.Next == next {
			return len(k.Bytes) >= next-1 && len(k.Bytes) <= 200*(next-1)
		}
	}
	return false
}

// offerOf is the tests' own Offer.
func offerOf(k impl.Taker, s string) (impl.Taker, int) {
	p, ok := pieceOf(s)
	if !takerOk(k) || !ok {
		return k, 4
	}
	if k.Of > 0 && p.Of != k.Of {
		return k, 4
	}
	if p.No == k.Next && p.Chain != linkOf(k.Chain, p.Bytes) {
		return k, 4
	}
	if p.No < k.Next {
		return k, 2
	}
	if p.No > k.Next {
		return k, 3
	}
	next := impl.Taker{Of: p.Of, Next: p.No + 1, Chain: p.Chain, Bytes: k.Bytes + p.Bytes}
	if p.No == p.Of {
		return next, 1
	}
	return next, 0
}

// takenOf is the tests' own Taken.
func takenOf(k impl.Taker) (impl.State, bool) {
	if !takerOk(k) || k.Of == 0 || k.Next != k.Of+1 {
		return impl.State{}, false
	}
	s, version := decodeOf(k.Bytes)
	return s, version != 0
}

// takersOf returns the Takers behind the first 0, 1, 2 .. of the pieces.
func takersOf(pieces []impl.Piece) []impl.Taker {
	list := []impl.Taker{freshTaker()}
	bytes := ""
	for i, p := range pieces {
		bytes += p.Bytes
		list = append(list, impl.Taker{Of: len(pieces), Next: i + 2, Chain: p.Chain, Bytes: bytes})
	}
	return list
}

// sealedPiece returns the sealed bytes of p, also of an invalid one.
func sealedPiece(p impl.Piece) string { return sealedRight(pieceBytes(p)) }

// short returns k with the beginning of its bytes in quotes, to be printed.
func short(k impl.Taker) impl.Taker {
	k.Bytes = strconv.Quote(k.Bytes[:min(len(k.Bytes), 40)])
	return k
}

func checkOffer(t *testing.T, what string, k impl.Taker, s string, want impl.Taker, code int) {
	t.Helper()
	got, gotCode := impl.Offer(k, s)
	if got != want || gotCode != code {
		t.Errorf("%s: Offer(%v, %.60q) = %v, %d, want %v, %d", what, short(k), s, short(got), gotCode, short(want), code)
	}
}

// checkNotAccepted expects the Taker that was given, and that code.
func checkNotAccepted(t *testing.T, what string, k impl.Taker, s string, code int) {
	t.Helper()
	checkOffer(t, what, k, s, k, code)
}

// checkOfferLikeModel offers s as offerOf does, and returns what the model gives.
func checkOfferLikeModel(t *testing.T, what string, k impl.Taker, s string) (impl.Taker, int) {
	t.Helper()
	want, code := offerOf(k, s)
	checkOffer(t, what, k, s, want, code)
	if next, _ := impl.Offer(k, s); impl.TakerOk(next) != takerOk(k) {
		t.Errorf("%s: Offer makes %v of %v", what, short(next), short(k))
	}
	return want, code
}

func checkTaken(t *testing.T, what string, k impl.Taker, want impl.State, ok bool) {
	t.Helper()
	got, gotOk := impl.Taken(k)
	if gotOk != ok {
		t.Errorf("%.60q: Taken(%v) = %v, want %v", what, short(k), gotOk, ok)
	}
	checkState(t, what, got, want)
}

// checkNotTaken expects the zero State and false.
func checkNotTaken(t *testing.T, what string, k impl.Taker) {
	t.Helper()
	checkTaken(t, what, k, impl.State{}, false)
}

// receive offers every string to k and returns the Taker behind the last one.
func receive(k impl.Taker, list []string) impl.Taker {
	for _, s := range list {
		k, _ = impl.Offer(k, s)
	}
	return k
}

// threePieces returns the pieces of a short snapshot in version 3.
func threePieces() []impl.Piece {
	text := encodeOf(itemsOf("a", "b"), 3)
	return piecesOf(partsOf(text, (len(text)+2)/3)...)
}

// invalidTakers returns Takers that are not valid, each for one reason.
func invalidTakers() map[string]impl.Taker {
	return map[string]impl.Taker{
		"zero":                       {},
		"Of 0 and Next 0":            {Chain: emptyChain},
		"Of 0 and Next 2":            {Next: 2, Chain: emptyChain},
		"Of 0 and Next -1":           {Next: -1, Chain: emptyChain},
		"Of 0 and another Chain":     {Next: 1, Chain: emptyChain + 1},
		"Of 0 and Chain 0":           {Next: 1},
		"Of 0 and Bytes":             {Next: 1, Chain: emptyChain, Bytes: "a"},
		"Of 0 and all else of one":   {Next: 2, Chain: 5, Bytes: "a"},
		"Of -1":                      {Of: -1, Next: 1, Chain: emptyChain},
		"Of -1 and Next 0":           {Of: -1, Chain: emptyChain},
		"Of below 0":                 {Of: -3, Next: 2, Bytes: "a"},
		"the smallest Of":            {Of: math.MinInt64, Next: 2, Bytes: "a"},
		"the smallest Of and Next":   {Of: math.MinInt64, Next: math.MinInt64 + 1},
		"the smallest Next":          {Of: 3, Next: math.MinInt64, Bytes: "a"},
		"Of 601":                     {Of: 601, Next: 2, Bytes: "a"},
		"the greatest Of":            {Of: math.MaxInt64, Next: 2, Bytes: "a"},
		"the greatest Of and Next":   {Of: math.MaxInt64, Next: math.MaxInt64, Bytes: "a"},
		"the greatest and smallest":  {Of: math.MaxInt64, Next: math.MinInt64, Bytes: "a"},
		"the greatest Next":          {Of: 3, Next: math.MaxInt64, Bytes: "aaa"},
		"Next 1":                     {Of: 3, Next: 1, Chain: emptyChain},
		"Next 0":                     {Of: 3, Next: 0, Chain: emptyChain},
		"Next above Of+1":            {Of: 3, Next: 5, Bytes: "aaaa"},
		"Next 602":                   {Of: 600, Next: 602, Bytes: strings.Repeat("a", 601)},
		"no Bytes":                   {Of: 3, Next: 2},
		"one byte of two pieces":     {Of: 3, Next: 3, Bytes: "a"},
		"201 bytes of one piece":     {Of: 3, Next: 2, Bytes: strings.Repeat("a", 201)},
		"401 bytes of two pieces":    {Of: 3, Next: 3, Bytes: strings.Repeat("a", 401)},
		"120001 bytes of 600 pieces": {Of: 600, Next: 601, Bytes: strings.Repeat("a", 120001)},
		"Chain -1":                   {Of: 3, Next: 2, Bytes: "a", Chain: -1},
		"the smallest Chain":         {Of: 3, Next: 2, Bytes: "a", Chain: math.MinInt64},
		"Chain above 32 bits":        {Of: 3, Next: 2, Bytes: "a", Chain: 4294967296},
		"the greatest Chain":         {Of: 3, Next: 2, Bytes: "a", Chain: math.MaxInt64},
	}
}

func TestTakerCodes(t *testing.T) {
	codes := []int{impl.TkMore, impl.TkDone, impl.TkAgain, impl.TkGap, impl.TkBad}
	if !slices.Equal(codes, []int{0, 1, 2, 3, 4}) {
		t.Errorf("the codes are %v", codes)
	}
}

func TestBegin(t *testing.T) {
	for _, chain := range someInts {
		if k := impl.Begin(chain); k != freshTaker() || !impl.TakerOk(k) {
			t.Errorf("Begin(%d) = %v", chain, short(k))
		}
	}
}

func TestTakerOk(t *testing.T) {
	valid := []impl.Taker{
		freshTaker(), {Of: 1, Next: 2, Bytes: "a"}, {Of: 600, Next: 2, Bytes: strings.Repeat("a", 200)}, {Of: 3, Next: 4, Bytes: "aaa", Chain: 4294967295},
		{Of: 3, Next: 3, Bytes: strings.Repeat("a", 400), Chain: emptyChain}, {Of: 600, Next: 601, Bytes: strings.Repeat("a", 600)}, {Of: 600, Next: 601, Bytes: strings.Repeat("a", 120000)},
	}
	for _, k := range valid {
		if !impl.TakerOk(k) || !takerOk(k) {
			t.Errorf("TakerOk(%v) = false", short(k))
		}
	}
	for what, k := range invalidTakers() {
		if impl.TakerOk(k) || takerOk(k) {
			t.Errorf("%s: TakerOk(%v) = true", what, short(k))
		}
	}
}

// TestTakerFields combines values of all fields, inside and outside the limits.
func TestTakerFields(t *testing.T) {
	ofs := []int{0, 1, 2, 3, 599, 600, 601, 65536, -1, -2, -600, math.MinInt64, math.MinInt64 + 1, math.MaxInt64 - 1, math.MaxInt64}
	nexts := []int{0, 1, 2, 3, 4, 599, 600, 601, 602, 65537, -1, -599, math.MinInt64, math.MinInt64 + 1, math.MinInt64 + 2, math.MaxInt64 - 1, math.MaxInt64}
	chains := []int{0, 1, emptyChain, 4294967295, 4294967296, -1, math.MinInt64, math.MaxInt64}
	lengths := []int{0, 1, 2, 3, 4, 199, 200, 201, 399, 400, 401, 598, 599, 600, 601, 119600, 119601, 119800, 119801, 120000, 120001}
	bytes := strings.Repeat("a", 120001)
	valid := 0
	for _, of := range ofs {
		for _, next := range nexts {
			for _, chain := range chains {
				for _, length := range lengths {
					k := impl.Taker{Of: of, Next: next, Chain: chain, Bytes: bytes[:length]}
					if got := impl.TakerOk(k); got != takerOk(k) {
						t.Errorf("TakerOk(%v) with %d bytes = %v", short(k), length, got)
					}
					if impl.TakerOk(k) {
						valid++
					}
				}
			}
		}
	}
	// For Next 2, 3, 4, 599, 600 and 601: so many values of Of, with so many lengths.
	pairs := 5*6 + 4*8 + 3*11 + 2*5 + 2*6 + 1*7
	if valid != 4*pairs+1 {
		t.Errorf("%d Takers are valid, want %d", valid, 4*pairs+1)
	}
}

// TestTakerLengths meets and exceeds the limits of Bytes for every Next.
func TestTakerLengths(t *testing.T) {
	bytes := strings.Repeat("a", 120001)
	for next := 2; next <= 601; next++ {
		for _, length := range []int{next - 2, next - 1, next, 200*(next-1) - 1, 200 * (next - 1), 200*(next-1) + 1} {
			for _, of := range []int{next - 2, next - 1, next, 600} {
				k := impl.Taker{Of: of, Next: next, Bytes: bytes[:length]}
				if got := impl.TakerOk(k); got != takerOk(k) {
					t.Errorf("TakerOk(%v) with %d bytes = %v", short(k), length, got)
				}
			}
		}
	}
}

// TestOffer receives a stream that is written out here.
func TestOffer(t *testing.T) {
	first := impl.Hash("\x81\x1c\x9d\xc5abcdefgh")
	second := impl.Hash(fourBytes(first) + "ij")
	one := sealedRight("P\x00\x01\x00\x02\x00\x08abcdefgh" + fourBytes(first))
	two := sealedRight("P\x00\x02\x00\x02\x00\x02ij" + fourBytes(second))
	none := impl.Taker{Next: 1, Chain: emptyChain}
	half := impl.Taker{Of: 2, Next: 2, Chain: first, Bytes: "abcdefgh"}
	whole := impl.Taker{Of: 2, Next: 3, Chain: second, Bytes: "abcdefghij"}
	single := sealedRight("P\x00\x01\x00\x01\x00\x01x" + fourBytes(impl.Hash("\x81\x1c\x9d\xc5x")))
	other := sealedRight("P\x00\x02\x00\x02\x00\x02ik" + fourBytes(second))
	rows := []struct {
		k    impl.Taker
		s    string
		want impl.Taker
		code int
	}{
		{none, one, half, impl.TkMore}, {none, two, none, impl.TkGap}, {none, "", none, impl.TkBad}, {none, other, none, impl.TkGap},
		{none, single, impl.Taker{Of: 1, Next: 2, Chain: impl.Hash("\x81\x1c\x9d\xc5x"), Bytes: "x"}, impl.TkDone},
		{half, two, whole, impl.TkDone}, {half, one, half, impl.TkAgain}, {half, other, half, impl.TkBad}, {half, single, half, impl.TkBad}, {half, "junk", half, impl.TkBad},
		{whole, one, whole, impl.TkAgain}, {whole, two, whole, impl.TkAgain}, {whole, other, whole, impl.TkAgain}, {whole, single, whole, impl.TkBad}, {whole, "", whole, impl.TkBad},
	}
	for _, row := range rows {
		checkOffer(t, "row", row.k, row.s, row.want, row.code)
	}
}

// someLists returns the pieces of streams of one piece up to as many as there may
// be, some with the least and some with the most bytes.
func someLists() map[string][]impl.Piece {
	text := someBytes(120000, 41)
	return map[string][]impl.Piece{
		"one small":    piecesOf("a"),
		"one great":    piecesOf(text[:200]),
		"two":          piecesOf("abcdefgh", "i"),
		"three":        threePieces(),
		"equal bytes":  piecesOf("aaaaaaaa", "aaaaaaaa", "aaaaaaaa", "aaaaaaaa"),
		"uneven sizes": piecesOf("a", text[:200], "bc", text[:77], "d"),
		"a snapshot":   piecesOf(partsOf(encodeOf(stateOf(5, 3), 3), 16)...),
		"many small":   piecesOf(strings.Split(strings.Repeat("abcdef", 100), "")...),
		"many great":   piecesOf(partsOf(text, 200)...),
	}
}

// TestOfferInOrder offers every piece in order, each once.
func TestOfferInOrder(t *testing.T) {
	for what, pieces := range someLists() {
		takers := takersOf(pieces)
		for i, p := range pieces {
			code := 0
			if i == len(pieces)-1 {
				code = 1
			}
			checkOffer(t, what, takers[i], sealedPiece(p), takers[i+1], code)
			if !impl.TakerOk(takers[i+1]) {
				t.Errorf("%s: the Taker behind piece %d is not valid", what, i+1)
			}
		}
	}
}

// someOf returns up to n of the places of a list, the first and the last ones.
func someOf(length int, n int) []int {
	var places []int
	for i := range length {
		if i < n/2 || i >= length-(n+1)/2 {
			places = append(places, i)
		}
	}
	return places
}

// TestOfferAgainOrEarly offers every piece to every Taker of its stream.
func TestOfferAgainOrEarly(t *testing.T) {
	for what, pieces := range someLists() {
		takers, list := takersOf(pieces), streamOf(pieces)
		for _, taken := range someOf(len(takers), 20) {
			for _, i := range someOf(len(list), 20) {
				if i < taken {
					checkNotAccepted(t, what+" again", takers[taken], list[i], 2)
				}
				if i > taken {
					checkNotAccepted(t, what+" early", takers[taken], list[i], 3)
				}
			}
		}
	}
}

// TestOfferOtherWithNumber offers other pieces with the numbers of the stream,
// with right seals. Only those with the next number have a chain to be compared.
func TestOfferOtherWithNumber(t *testing.T) {
	for what, pieces := range someLists() {
		takers := takersOf(pieces)
		for _, taken := range someOf(len(takers), 10) {
			for _, i := range someOf(len(pieces), 10) {
				code := 4
				if i < taken {
					code = 2
				}
				if i > taken {
					code = 3
				}
				p := pieces[i]
				check := func(bytes string, chain int) {
					t.Helper()
					checkNotAccepted(t, what+" with another piece", takers[taken], sealedPiece(impl.Piece{No: p.No, Of: p.Of, Bytes: bytes, Chain: chain}), code)
				}
				check("x", p.Chain)
				check(flipped(p.Bytes, 0), p.Chain)
				check(p.Bytes, p.Chain^1)
				check(p.Bytes, emptyChain)
				check("x", 0)
				check("x", linkOf(p.Chain, "x"))
				check("x", linkOf(1, "x"))
			}
		}
	}
}

// TestOfferNoPiece offers what GetPiece rejects to every Taker of a stream.
func TestOfferNoPiece(t *testing.T) {
	pieces := threePieces()
	p := pieces[1]
	bad := []string{"", "P", "junk", "\x00", p.Bytes, pieceBytes(p), sealedRight(sealedPiece(p)), sealedPiece(p) + "\x00", strings.Repeat("P", 100000), strings.Join(streamOf(pieces), "")}
	for _, invalid := range []impl.Piece{{No: 0, Of: 3, Bytes: "a"}, {No: 4, Of: 3, Bytes: "a"}, {No: 2, Of: 3}, {No: 2, Of: 3, Bytes: strings.Repeat("a", 201)}, {No: 1, Of: 601, Bytes: "a"}, {}} {
		bad = append(bad, sealedPiece(invalid))
	}
	for taken, k := range takersOf(pieces) {
		for _, s := range bad {
			checkNotAccepted(t, "no piece", k, s, 4)
		}
		for _, s := range streamOf(pieces) {
			for n := range len(s) {
				checkNotAccepted(t, "a cut piece", k, s[:n], 4)
			}
			for bit := range 8 * len(s) {
				checkNotAccepted(t, "a changed bit behind "+impl.DecText(taken), k, flipped(s, bit), 4)
			}
		}
	}
}

// TestOfferOtherOf offers pieces of streams with another number of pieces, also
// with numbers that were taken already or are early.
func TestOfferOtherOf(t *testing.T) {
	pieces := threePieces()
	takers := takersOf(pieces)
	for taken, k := range takers {
		for _, of := range []int{1, 2, 4, 5, 599, 600} {
			for _, no := range []int{1, 2, 3, 4, 5, 600} {
				bytes := "abc"
				s := sealedPiece(impl.Piece{No: no, Of: of, Bytes: bytes, Chain: linkOf(k.Chain, bytes)})
				switch {
				case no > of || taken > 0:
					checkNotAccepted(t, "another Of", k, s, 4)
				case no > 1:
					checkNotAccepted(t, "another Of, early", k, s, 3)
				default:
					checkOfferLikeModel(t, "another Of, first", k, s)
				}
			}
		}
	}
}

// TestOfferAnyFirstOf accepts a first piece of any number of pieces.
func TestOfferAnyFirstOf(t *testing.T) {
	for of := 1; of <= 600; of++ {
		chain := linkOf(emptyChain, "a")
		code := 0
		if of == 1 {
			code = 1
		}
		checkOffer(t, "the first of any number", freshTaker(), sealedPiece(impl.Piece{No: 1, Of: of, Bytes: "a", Chain: chain}), impl.Taker{Of: of, Next: 2, Chain: chain, Bytes: "a"}, code)
	}
}

// TestOfferOwnTaker offers right pieces to Takers that no stream of these tests
// has: Offer compares with their Chain, whatever their Bytes are.
func TestOfferOwnTaker(t *testing.T) {
	for _, chain := range []int{0, 1, 255, 258, 16909060, emptyChain, 4294967294, 4294967295} {
		for _, of := range []int{1, 2, 599, 600} {
			for next := 2; next <= of; next += 1 + of/7 {
				k := impl.Taker{Of: of, Next: next, Chain: chain, Bytes: strings.Repeat("z", next-1)}
				right := impl.Piece{No: next, Of: of, Bytes: "abc", Chain: linkOf(chain, "abc")}
				code := 0
				if next == of {
					code = 1
				}
				checkOffer(t, "own", k, sealedPiece(right), impl.Taker{Of: of, Next: next + 1, Chain: right.Chain, Bytes: k.Bytes + "abc"}, code)
				for _, other := range []int{impl.Hash("abc"), linkOf(chain, k.Bytes), linkOf(chain, k.Bytes+"abc"), linkOf(emptyChain, "xyz"), chain} {
					right.Chain = other
					checkNotAccepted(t, "own, another Chain", k, sealedPiece(right), 4)
				}
			}
		}
	}
}

// TestOfferForeignPieces offers the pieces of other streams. Only the next piece
// of a stream that was the same so far is accepted, because the Taker can't tell
// that one from its own.
func TestOfferForeignPieces(t *testing.T) {
	all := someLists()
	all["three others"] = piecesOf("abcdefgh", "ijklmnop", "q")
	all["two others"] = piecesOf("abcdefgh", "j")
	all["two other ones"] = piecesOf("abcdefgH", "i")
	for what, pieces := range all {
		takers := takersOf(pieces)
		for other, foreign := range all {
			for _, taken := range someOf(len(takers), 8) {
				for _, i := range someOf(len(foreign), 8) {
					name := what + " with a piece of " + other
					_, code := checkOfferLikeModel(t, name, takers[taken], sealedPiece(foreign[i]))
					same := taken == 0 || len(pieces) == len(foreign) && slices.Equal(pieces[:taken], foreign[:taken])
					if (code <= 1) != (same && i == taken) {
						t.Errorf("%s: the code of piece %d behind %d is %d", name, i+1, taken, code)
					}
				}
			}
		}
	}
}

// TestOfferStreamsApart goes on with another stream that differs in one piece:
// behind that piece neither stream goes on with the other one.
func TestOfferStreamsApart(t *testing.T) {
	a, b := piecesOf("abcdefgh", "ijklmnop", "qrstuvwx", "yz", "z"), piecesOf("abcdefgh", "ijklmnop", "qrstuvwX", "yz", "z")
	ofA, ofB := takersOf(a), takersOf(b)
	for i := range a {
		code := 0
		if i == len(a)-1 {
			code = 1
		}
		if i <= 2 {
			checkOffer(t, "the same so far", ofA[i], sealedPiece(b[i]), ofB[i+1], code)
			checkOffer(t, "the same so far", ofB[i], sealedPiece(a[i]), ofA[i+1], code)
		} else {
			checkNotAccepted(t, "behind another piece", ofA[i], sealedPiece(b[i]), 4)
			checkNotAccepted(t, "behind another piece", ofB[i], sealedPiece(a[i]), 4)
		}
	}
}

// TestOfferInvalidTakers expects every invalid Taker back as it was, whatever is
// offered, also what it would accept if it were valid.
func TestOfferInvalidTakers(t *testing.T) {
	offers := append(streamOf(threePieces()), "", "junk", "P", sealedPiece(impl.Piece{}))
	for what, k := range invalidTakers() {
		for _, s := range offers {
			checkNotAccepted(t, what, k, s, 4)
		}
		for _, no := range []int{1, 2, 3, k.Next, k.Of} {
			for _, of := range []int{1, 3, 600, k.Of} {
				s := sealedPiece(impl.Piece{No: no, Of: of, Bytes: "a", Chain: linkOf(k.Chain, "a")})
				checkNotAccepted(t, what, k, s, 4)
			}
		}
	}
}

// TestOfferFirstCode combines the reasons of all codes, so that the first one
// that applies decides.
func TestOfferFirstCode(t *testing.T) {
	takers := append(takersOf(threePieces()), takersOf(piecesOf("a", "b", "c", "d"))...)
	for _, k := range invalidTakers() {
		takers = append(takers, k)
	}
	seen := map[int]int{}
	for _, k := range takers {
		for no := range 6 {
			for of := range 6 {
				for _, bytes := range []string{"", "a", "abc"} {
					for _, chain := range []int{linkOf(k.Chain, bytes), linkOf(k.Chain, bytes) ^ 1, k.Chain} {
						s := sealedPiece(impl.Piece{No: no, Of: of, Bytes: bytes, Chain: chain})
						_, code := checkOfferLikeModel(t, "reasons", k, s)
						checkNotAccepted(t, "reasons and a changed bit", k, flipped(s, 9), 4)
						seen[code]++
					}
				}
			}
		}
	}
	for code := range 5 {
		if seen[code] < 8 {
			t.Errorf("the code %d occurs %d times", code, seen[code])
		}
	}
}

// TestEverySequence receives three pieces in all sequences of up to seven of them:
// the Taker is the one behind the pieces that came in order, and nothing else
// counts.
func TestEverySequence(t *testing.T) {
	pieces := threePieces()
	takers, list := takersOf(pieces), streamOf(pieces)
	var follow func(k impl.Taker, taken int, left int)
	follow = func(k impl.Taker, taken int, left int) {
		if k != takers[taken] {
			t.Fatalf("the Taker behind %d pieces is %v", taken, short(k))
		}
		if _, ok := impl.Taken(k); ok != (taken == 3) {
			t.Fatalf("Taken behind %d pieces = %v", taken, ok)
		}
		if left == 0 {
			return
		}
		for i, s := range list {
			next, _ := impl.Offer(k, s)
			if i == taken {
				follow(next, taken+1, left-1)
			} else {
				follow(next, taken, left-1)
			}
		}
	}
	follow(impl.Begin(0), 0, 7)
}

// TestReceivedWhateverWasLost checks promise 8: pieces are lost, repeated, moved
// and changed, pieces of another stream come in between, and what was lost is
// sent again from Next on.
func TestReceivedWhateverWasLost(t *testing.T) {
	for what, list := range streams() {
		want, _ := importOf(list)
		direct := receive(impl.Begin(0), list)
		first, _ := pieceOf(list[0])
		foreign := streamOf(piecesOf(partsOf(flipped(direct.Bytes, 0), len(first.Bytes))...))
		if len(foreign) != len(list) {
			t.Fatalf("%s: the foreign stream has %d pieces, not %d", what, len(foreign), len(list))
		}
		for start := range uint32(4) {
			k := receiveBadly(t, list, foreign, start)
			if k != direct {
				t.Errorf("%s: the Taker is %v, want %v", what, short(k), short(direct))
			}
			checkTaken(t, what, k, want, true)
		}
	}
}

// receiveBadly sends the list from Next on until the Taker is whole. What happens
// to each piece depends on start alone. No foreign piece comes first, because the
// first one decides which stream the Taker receives.
func receiveBadly(t *testing.T, list []string, foreign []string, start uint32) impl.Taker {
	t.Helper()
	k := impl.Begin(int(start))
	for round := range uint32(1000) {
		luck := someBytes(2*len(list), 1000*start+round)
		for i := k.Next - 1; i < len(list); i++ {
			sent := list[i]
			other := int(luck[2*i+1])
			switch luck[2*i] % 16 {
			case 0:
				continue
			case 1:
				sent = flipped(sent, other%(8*len(sent)))
			case 2:
				sent = list[other%len(list)]
			case 3:
				sent = sent[:other%len(sent)]
			case 4:
				k, _ = checkOfferLikeModel(t, "twice", k, sent)
			case 5, 6:
				if k.Of > 0 {
					sent = foreign[i]
				}
			}
			k, _ = checkOfferLikeModel(t, "sent", k, sent)
			if k.Of > 0 && k.Next == k.Of+1 {
				return k
			}
		}
	}
	t.Errorf("the stream of %d pieces does not arrive", len(list))
	return k
}

// TestReceivedInAnyOrder receives streams in rounds that each have all pieces, in
// the opposite order: one piece of each round is accepted.
func TestReceivedInAnyOrder(t *testing.T) {
	pieces := piecesOf(partsOf(encodeOf(stateOf(2, 1), 3), 8)...)
	list := streamOf(pieces)
	slices.Reverse(list)
	k := impl.Begin(0)
	for round, want := range takersOf(pieces) {
		if k != want {
			t.Errorf("the Taker behind %d rounds is %v", round, short(k))
		}
		k = receive(k, list)
	}
	checkTaken(t, "in the opposite order", k, stateOf(2, 1), true)
}

// TestResumed stops behind every piece and goes on with a Taker of the same
// fields.
func TestResumed(t *testing.T) {
	for what, list := range streams() {
		want, _ := importOf(list)
		for _, n := range someOf(len(list), 10) {
			k := receive(impl.Begin(0), list[:n])
			again := impl.Taker{Of: k.Of, Next: k.Next, Chain: k.Chain, Bytes: strings.Clone(k.Bytes)}
			if again.Next != n+1 {
				t.Errorf("%s: Next is %d behind %d pieces", what, again.Next, n)
			}
			checkNotTaken(t, what+" in part", again)
			checkTaken(t, what+" resumed", receive(again, list[again.Next-1:]), want, true)
		}
	}
}

func TestTaken(t *testing.T) {
	s := impl.State{Items: []impl.Item{{Key: "a", Value: "1"}}, Talks: []impl.Talk{{Client: "c", Seq: 258, Reply: "r"}}}
	one, two := encodeOf(s, 1), encodeOf(s, 2)
	checkTaken(t, "one piece", impl.Taker{Of: 1, Next: 2, Bytes: two}, s, true)
	checkTaken(t, "version 1", impl.Taker{Of: 1, Next: 2, Bytes: one}, impl.State{Items: s.Items}, true)
	checkTaken(t, "the empty state", impl.Taker{Of: 4, Next: 5, Chain: 4294967295, Bytes: "F\x01\x00\x00"}, impl.State{}, true)
	checkTaken(t, "as many pieces as bytes", impl.Taker{Of: len(two), Next: len(two) + 1, Bytes: two}, s, true)
	checkNotTaken(t, "new", impl.Begin(0))
	checkNotTaken(t, "one of two", impl.Taker{Of: 2, Next: 2, Bytes: two})
	checkNotTaken(t, "599 of 600", impl.Taker{Of: 600, Next: 600, Bytes: encodeOf(stateOf(40, 20), 3)[:700]})
	checkNotTaken(t, "no format", impl.Taker{Of: 1, Next: 2, Bytes: "junk"})
	checkNotTaken(t, "a cut format", impl.Taker{Of: 1, Next: 2, Bytes: two[:len(two)-1]})
	checkNotTaken(t, "a longer format", impl.Taker{Of: 1, Next: 2, Bytes: two + "\x00"})
}

// TestTakenOfInvalidTakers has Bytes that are a format, in Takers that are not
// valid.
func TestTakenOfInvalidTakers(t *testing.T) {
	for what, k := range invalidTakers() {
		checkNotTaken(t, what, k)
		k.Bytes = encodeOf(itemsOf("a"), 1)
		if !takerOk(k) {
			checkNotTaken(t, what+" with a format", k)
		}
	}
	text := encodeOf(stateOf(10, 10), 3)
	for _, k := range []impl.Taker{
		{Next: 1, Chain: emptyChain, Bytes: text},
		{Of: 1, Next: 2, Bytes: text},
		{Of: len(text) / 200, Next: len(text)/200 + 1, Bytes: text},
		{Of: 600, Next: 601, Bytes: encodeOf(itemsOf("a"), 3)},
		{Of: 601, Next: 602, Bytes: encodeOf(stateOf(40, 20), 3)},
		{Of: 9, Next: 10, Chain: -1, Bytes: text},
		{Of: 9, Next: 10, Chain: 4294967296, Bytes: text},
		{Of: 9, Next: 11, Bytes: text},
		{Of: math.MaxInt64, Next: math.MinInt64, Bytes: text},
	} {
		if takerOk(k) {
			t.Fatalf("%v is valid", short(k))
		}
		checkNotTaken(t, "invalid", k)
	}
}

// TestTakenLikeImport receives every state in every version.
func TestTakenLikeImport(t *testing.T) {
	for what, s := range formatStates() {
		for _, version := range []int{1, 2, 3} {
			for _, size := range []int{8, 61, 200} {
				list := impl.Export(s, version, size)
				k := receive(impl.Begin(0), list)
				checkTaken(t, what, k, keptOf(s, version), true)
				checkNotTaken(t, what+" in part", receive(impl.Begin(0), list[:len(list)-1]))
			}
		}
	}
}

// TestTakenNoFormat receives right pieces of bytes that are no format.
func TestTakenNoFormat(t *testing.T) {
	for what, s := range formatStates() {
		text := encodeOf(s, 3)
		for _, other := range []string{text[:len(text)-1], text[1:], text + "\x00", "G" + text[1:], flipped(text, 8*len(text)-1)} {
			list := cutOf(other, 200)
			k := receive(impl.Begin(0), list)
			if k.Of != len(list) || k.Next != len(list)+1 || k.Bytes != other {
				t.Errorf("%.60q: the Taker is %v", what, short(k))
			}
			checkNotTaken(t, what, k)
		}
	}
	for what, pieces := range someLists() {
		for _, k := range takersOf(pieces) {
			want, ok := takenOf(k)
			checkTaken(t, what, k, want, ok)
		}
	}
}

// TestMostPieces receives the most pieces with the most bytes, and nothing more.
func TestMostPieces(t *testing.T) {
	text := someBytes(120000, 42)
	list := impl.Cut(text, 200)
	k := receive(impl.Begin(0), list)
	if k.Of != 600 || k.Next != 601 || k.Bytes != text || !impl.TakerOk(k) {
		t.Errorf("the Taker is %v", short(k))
	}
	for i, s := range list {
		checkNotAccepted(t, "behind piece "+impl.DecText(i+1), k, s, 2)
	}
	checkNotAccepted(t, "piece 601", k, sealedPiece(impl.Piece{No: 601, Of: 601, Bytes: "a", Chain: linkOf(k.Chain, "a")}), 4)
	checkNotAccepted(t, "piece 601 of 600", k, sealedPiece(impl.Piece{No: 601, Of: 600, Bytes: "a", Chain: linkOf(k.Chain, "a")}), 4)
}

// takerCalls returns calls that send the state to a Taker, with and without the
// last piece.
func takerCalls() map[string]func(impl.State) impl.State {
	calls := map[string]func(impl.State) impl.State{}
	for _, size := range []int{8, 200} {
		calls["Taken by "+impl.DecText(size)] = func(s impl.State) impl.State {
			next, _ := impl.Taken(receive(impl.Begin(0), impl.Export(s, 3, size)))
			return next
		}
		calls["Taken in part by "+impl.DecText(size)] = func(s impl.State) impl.State {
			list := impl.Export(s, 3, size)
			next, _ := impl.Taken(receive(impl.Begin(0), list[:max(len(list)-1, 0)]))
			return next
		}
	}
	return calls
}

func TestTakersDoNotChangeStates(t *testing.T) { checkStatesStay(t, takerCalls()) }

// TestTakenStatesShareNothing overwrites one state of a Taker and expects another
// one as it was, and the Taker too.
func TestTakenStatesShareNothing(t *testing.T) {
	for what, s := range formatStates() {
		k := receive(impl.Begin(0), impl.Export(s, 3, 200))
		before := k
		before.Bytes = strings.Clone(k.Bytes)
		first, _ := impl.Taken(k)
		second, _ := impl.Taken(k)
		overwrite(first)
		checkState(t, what+": another state", second, s)
		checkTaken(t, what+": later", k, s, true)
		if k != before {
			t.Errorf("%.60q: the Taker is changed to %v", what, short(k))
		}
	}
}

// TestOffersAreDeterministic repeats offers to one Taker, with others in between.
func TestOffersAreDeterministic(t *testing.T) {
	pieces := threePieces()
	takers, list := takersOf(pieces), append(streamOf(pieces), "", "junk")
	for range 3 {
		for _, k := range takers {
			for _, s := range list {
				checkOfferLikeModel(t, "repeated", k, s)
			}
		}
	}
}

func FuzzOffer(f *testing.F) {
	for _, k := range takersOf(threePieces()) {
		for _, p := range threePieces() {
			f.Add(k.Of, k.Next, k.Chain, k.Bytes, p.No, p.Of, p.Chain, p.Bytes)
		}
	}
	f.Fuzz(func(t *testing.T, of int, next int, chain int, bytes string, no int, pieceOf int, pieceChain int, pieceBytes string) {
		k := impl.Taker{Of: of, Next: next, Chain: chain, Bytes: bytes}
		if impl.TakerOk(k) != takerOk(k) {
			t.Errorf("TakerOk(%v) = %v", short(k), impl.TakerOk(k))
		}
		want, ok := takenOf(k)
		checkTaken(t, "fuzz", k, want, ok)
		p := impl.Piece{No: no, Of: pieceOf, Bytes: pieceBytes, Chain: pieceChain}
		checkOfferLikeModel(t, "fuzz", k, sealedPiece(p))
		p.Chain = linkOf(chain, pieceBytes)
		checkOfferLikeModel(t, "fuzz, linked", k, sealedPiece(p))
		checkOfferLikeModel(t, "fuzz, no seal", k, pieceBytes)
	})
}
