package tests

import (
	"hash/fnv"
	"maps"
	"math"
	"slices"
	"strings"
	"testing"

	"loop.example/g00772/impl"
)

// otherParts are numbers of parts that no store has.
var otherParts = []int{0, -1, -2, -8, 9, 10, 16, 256, 257, 1<<32 + 1, 1<<32 + 8, math.MinInt64, math.MinInt64 + 1, math.MaxInt64 - 1, math.MaxInt64}

// partOf is the tests' own PartOf.
func partOf(key string, n int) int {
	if n < 1 || n > 8 {
		return 0
	}
	h := fnv.New32a()
	h.Write([]byte(key))
	return int(h.Sum32() % uint32(n))
}

// splitOf is the tests' own Split of a valid state and number.
func splitOf(s impl.State, n int) []impl.State {
	parts := make([]impl.State, n)
	for i := range parts {
		parts[i].Talks = slices.Clone(s.Talks)
	}
	for _, x := range s.Items {
		part := &parts[partOf(x.Key, n)]
		part.Items = append(part.Items, x)
	}
	return parts
}

// mergeOf is the tests' own Merge of valid states.
func mergeOf(list []impl.State) (impl.State, bool) {
	items, talks := map[string]string{}, map[string]impl.Talk{}
	count := 0
	for i := len(list) - 1; i >= 0; i-- {
		for _, x := range list[i].Items {
			items[x.Key] = x.Value
			count++
		}
		// From the last state to the first, the first of equal ones comes last.
		for _, x := range list[i].Talks {
			if x.Seq >= talks[x.Client].Seq {
				talks[x.Client] = x
			}
		}
	}
	if count > len(items) || len(items) > 40 || len(talks) > 20 {
		return impl.State{}, false
	}
	return stateOfMaps(items, talks), true
}

// apartOf is the tests' own Apart.
func apartOf(list []impl.State) bool {
	apart := true
	for i, s := range list {
		for _, x := range s.Items {
			apart = apart && partOf(x.Key, len(list)) == i
		}
	}
	return apart
}

// keysOfPart returns the first count numbered names, ascending, of that part.
func keysOfPart(part int, n int, count int) []string {
	var keys []string
	for i := 0; len(keys) < count; i++ {
		if key := numberedName(i); partOf(key, n) == part {
			keys = append(keys, key)
		}
	}
	return keys
}

// itemsOf returns the state with these keys and no talks.
func itemsOf(keys ...string) impl.State {
	s := impl.State{}
	for _, key := range keys {
		s.Items = append(s.Items, impl.Item{Key: key, Value: "of " + key})
	}
	return s
}

// talksOf returns the state with one talk.
func talksOf(client string, seq int, reply string) impl.State {
	return impl.State{Talks: []impl.Talk{{Client: client, Seq: seq, Reply: reply}}}
}

// someState returns a valid state with some of 60 keys and of 24 clients.
func someState(start uint32) impl.State {
	choices := someBytes(60+24+3, start)
	s := impl.State{}
	for i := range 60 {
		if len(s.Items) < 40 && choices[i] <= choices[84] {
			s.Items = append(s.Items, impl.Item{Key: numberedName(i), Value: strings.Repeat("v", int(choices[i])%61)})
		}
	}
	for i := range 24 {
		if len(s.Talks) < 20 && choices[60+i] <= choices[85] {
			seq := 1 + int(choices[60+i])%3
			s.Talks = append(s.Talks, impl.Talk{Client: numberedName(i), Seq: seq, Reply: "r" + impl.DecText(int(start))})
		}
	}
	return s
}

// orders returns all orders of 0..n-1.
func orders(n int) [][]int {
	if n == 0 {
		return [][]int{nil}
	}
	var all [][]int
	for _, order := range orders(n - 1) {
		for at := range n {
			all = append(all, slices.Insert(slices.Clone(order), at, n-1))
		}
	}
	return all
}

// inOrder returns the states in that order.
func inOrder(list []impl.State, order []int) []impl.State {
	turned := make([]impl.State, len(list))
	for i, at := range order {
		turned[i] = list[at]
	}
	return turned
}

func checkSplit(t *testing.T, what string, s impl.State, n int, want []impl.State) {
	t.Helper()
	got := impl.Split(s, n)
	if len(got) != len(want) {
		t.Errorf("%.60q: Split in %d has %d parts, want %d", what, n, len(got), len(want))
		return
	}
	for i := range got {
		checkState(t, what+": part "+impl.DecText(i)+" of "+impl.DecText(n), got[i], want[i])
	}
}

func checkMerge(t *testing.T, what string, list []impl.State, want impl.State, ok bool) {
	t.Helper()
	got, gotOk := impl.Merge(list)
	if gotOk != ok {
		t.Errorf("%.60q: Merge = %v, want %v", what, gotOk, ok)
	}
	checkState(t, what, got, want)
}

func checkNotMerged(t *testing.T, what string, list ...impl.State) {
	t.Helper()
	checkMerge(t, what, list, impl.State{}, false)
}

func checkApart(t *testing.T, what string, list []impl.State, want bool) {
	t.Helper()
	if got := impl.Apart(list); got != want {
		t.Errorf("%.60q: Apart of %d states = %v, want %v", what, len(list), got, want)
	}
}

func TestMaxParts(t *testing.T) {
	if impl.MaxParts != 8 {
		t.Error("the limit of parts is not that of the document")
	}
}

func TestPartOf(t *testing.T) {
	cases := []struct {
		key     string
		n, want int
	}{
		// The hashes are 2166136261, 3826002220 and 3214735720.
		{"", 1, 0}, {"", 2, 1}, {"", 4, 1}, {"", 8, 5},
		{"a", 1, 0}, {"a", 2, 0}, {"a", 3, 1}, {"a", 5, 0}, {"a", 7, 5}, {"a", 8, 4},
		{"foobar", 1, 0}, {"foobar", 2, 0}, {"foobar", 3, 1}, {"foobar", 5, 0}, {"foobar", 6, 4}, {"foobar", 8, 0},
	}
	for _, c := range cases {
		if got := impl.PartOf(c.key, c.n); got != c.want {
			t.Errorf("PartOf(%q, %d) = %d, want %d", c.key, c.n, got, c.want)
		}
	}
}

// TestPartOfEveryKey uses names and other strings, for all numbers of parts.
func TestPartOfEveryKey(t *testing.T) {
	keys := append([]string{"a", "z", "0", "apple", "zoo", "abcdefghijkl", "a\x00", longest, strings.Repeat("\xff", 65536)}, otherNames...)
	for i := range 1000 {
		keys = append(keys, numberedName(i))
	}
	for c := range 256 {
		keys = append(keys, string([]byte{byte(c)}))
	}
	for _, key := range keys {
		for n := 1; n <= 8; n++ {
			got := impl.PartOf(key, n)
			if got != partOf(key, n) || got != impl.Hash(key)%n {
				t.Errorf("PartOf(%.40q, %d) = %d, want %d", key, n, got, partOf(key, n))
			}
		}
		for _, n := range otherParts {
			if got := impl.PartOf(key, n); got != 0 {
				t.Errorf("PartOf(%.40q, %d) = %d, want 0", key, n, got)
			}
		}
	}
}

func TestSplit(t *testing.T) {
	s := impl.State{
		Items: []impl.Item{{Key: "a", Value: "1"}, {Key: "b"}, {Key: "foobar", Value: "3"}},
		Talks: []impl.Talk{{Client: "ann", Seq: 3, Reply: "r"}, {Client: "bob", Seq: 1000000000}},
	}
	// The hash of b is 3876335077.
	checkSplit(t, "three items", s, 1, []impl.State{s})
	checkSplit(t, "three items", s, 2, []impl.State{{Items: []impl.Item{s.Items[0], s.Items[2]}, Talks: s.Talks}, {Items: s.Items[1:2], Talks: s.Talks}})
	checkSplit(t, "three items", s, 3, []impl.State{{Talks: s.Talks}, {Items: s.Items, Talks: s.Talks}, {Talks: s.Talks}})
	checkSplit(t, "three items", s, 4, []impl.State{{Items: []impl.Item{s.Items[0], s.Items[2]}, Talks: s.Talks}, {Items: s.Items[1:2], Talks: s.Talks}, {Talks: s.Talks}, {Talks: s.Talks}})
	for what, s := range validStates() {
		for n := 1; n <= 8; n++ {
			checkSplit(t, what, s, n, splitOf(s, n))
		}
	}
}

func TestSplitRejects(t *testing.T) {
	for what, s := range validStates() {
		for _, n := range otherParts {
			checkSplit(t, what, s, n, nil)
		}
	}
	for what, s := range invalidStates() {
		for n := range 10 {
			checkSplit(t, what, s, n, nil)
		}
		checkSplit(t, what, s, math.MinInt64, nil)
		checkSplit(t, what, s, math.MaxInt64, nil)
	}
}

// TestSplitUneven splits states all of whose items fall into one part.
func TestSplitUneven(t *testing.T) {
	for n := 1; n <= 8; n++ {
		for part := range n {
			for _, count := range []int{1, 2, 39, 40} {
				s := itemsOf(keysOfPart(part, n, count)...)
				s.Talks = talkList(count / 2)
				want := make([]impl.State, n)
				for i := range want {
					want[i].Talks = s.Talks
				}
				want[part].Items = s.Items
				checkSplit(t, "one part", s, n, want)
			}
		}
	}
}

func TestMergeOfNone(t *testing.T) {
	checkMerge(t, "nil", nil, impl.State{}, true)
	checkMerge(t, "empty list", []impl.State{}, impl.State{}, true)
	for _, n := range []int{1, 2, 8, 9, 1000} {
		checkMerge(t, "zero states", make([]impl.State, n), impl.State{}, true)
	}
	checkMerge(t, "empty lists", []impl.State{{Items: []impl.Item{}}, {Talks: []impl.Talk{}}}, impl.State{}, true)
}

func TestMergeOfOne(t *testing.T) {
	for what, s := range validStates() {
		checkMerge(t, what, []impl.State{s}, s, true)
		checkMerge(t, what, []impl.State{{}, s}, s, true)
		checkMerge(t, what, []impl.State{s, {}, {}}, s, true)
	}
}

// TestMergeOfMany expects no limit to the number of states.
func TestMergeOfMany(t *testing.T) {
	var list []impl.State
	for i := range 40 {
		list = append(list, impl.State{Items: []impl.Item{{Key: numberedName(39 - i)}}, Talks: []impl.Talk{{Client: numberedName(i % 20), Seq: 1 + i}}})
		want, ok := mergeOf(list)
		checkMerge(t, "one item each", list, want, true)
		if !ok || len(want.Items) != i+1 || len(want.Talks) != min(i+1, 20) {
			t.Fatalf("the model merges %d states to %v", len(list), want)
		}
	}
	checkNotMerged(t, "41 states", append(slices.Clone(list), itemsOf("more"))...)
	checkNotMerged(t, "21 clients", append(slices.Clone(list), talksOf("more", 1, ""))...)
}

func TestMergeEqualKeys(t *testing.T) {
	a := impl.State{Items: []impl.Item{{Key: "b", Value: "1"}}}
	rows := map[string]impl.State{
		"the same item": a,
		"another value": {Items: []impl.Item{{Key: "b", Value: "2"}}},
		"no value":      {Items: []impl.Item{{Key: "b"}}},
		"last":          {Items: []impl.Item{{Key: "a"}, {Key: "b", Value: "1"}}},
		"first":         {Items: []impl.Item{{Key: "b", Value: "1"}, {Key: "c"}}},
	}
	for what, b := range rows {
		checkNotMerged(t, what, a, b)
		checkNotMerged(t, what, b, a)
		checkNotMerged(t, what, impl.State{}, b, itemsOf("d"), a, talksOf("b", 1, ""))
	}
	for what, s := range validStates() {
		if len(s.Items) > 0 {
			checkNotMerged(t, what, s, s)
			last := impl.State{Items: s.Items[len(s.Items)-1:]}
			checkNotMerged(t, what, s, last)
			checkNotMerged(t, what, last, s)
		} else {
			checkMerge(t, what, []impl.State{s, s}, s, true)
		}
	}
	both := impl.State{Items: a.Items, Talks: talksOf("b", 1, "r").Talks}
	checkMerge(t, "a client with the name of a key", []impl.State{a, talksOf("b", 1, "r")}, both, true)
}

// TestMergeRejectsStates puts an invalid state among valid ones, also such that
// have newer talks of its clients.
func TestMergeRejectsStates(t *testing.T) {
	newer := impl.State{Talks: talkList(20)}
	for i := range newer.Talks {
		newer.Talks[i].Seq = 1000000000
	}
	for what, s := range invalidStates() {
		checkNotMerged(t, what, s)
		checkNotMerged(t, what, impl.State{}, s)
		checkNotMerged(t, what, s, impl.State{})
		checkNotMerged(t, what, itemsOf("q1"), s, itemsOf("q2"))
		checkNotMerged(t, what, newer, s)
		checkNotMerged(t, what, s, newer)
		checkNotMerged(t, what, itemsOf("q1"), itemsOf("q2"), s)
	}
}

func TestMergeItemLimit(t *testing.T) {
	list := itemList(60)
	for a := range 41 {
		for b := range 41 {
			if a+b > 60 {
				continue
			}
			first, second := impl.State{Items: list[:a]}, impl.State{Items: list[a : a+b]}
			want := impl.State{}
			if a+b <= 40 {
				want = impl.State{Items: list[:a+b]}
			}
			checkMerge(t, "first, second", []impl.State{first, second}, want, a+b <= 40)
			checkMerge(t, "second, first", []impl.State{second, first}, want, a+b <= 40)
		}
	}
	// Talks do not take the place of items.
	full := []impl.State{{Items: list[:20], Talks: talkList(20)}, {Items: list[20:40], Talks: talkList(20)}}
	checkMerge(t, "full", full, stateOf(40, 20), true)
	checkNotMerged(t, "41 items in three", append(full, itemsOf("more"))...)
}

// TestMergeTalkLimit also has talks of the same clients, which count once.
func TestMergeTalkLimit(t *testing.T) {
	list := talkList(40)
	for a := range 21 {
		for b := range 21 {
			for _, same := range []int{0, 1, min(a, b)} {
				if same > min(a, b) {
					continue
				}
				all := a + b - same
				first, second := impl.State{Talks: list[:a]}, impl.State{Talks: list[a-same : all]}
				want := impl.State{}
				if all <= 20 {
					want = impl.State{Talks: list[:all]}
				}
				checkMerge(t, "first, second", []impl.State{first, second}, want, all <= 20)
				checkMerge(t, "second, first", []impl.State{second, first}, want, all <= 20)
			}
		}
	}
	checkMerge(t, "the same 20", []impl.State{stateOf(40, 20), stateOf(0, 20)}, stateOf(40, 20), true)
	checkNotMerged(t, "21 talks", stateOf(40, 20), talksOf("more", 1, ""))
}

// TestMergeTalks expects the talk with the greatest number, the first of several,
// in all orders of the states.
func TestMergeTalks(t *testing.T) {
	rows := [][]int{{5}, {5, 7}, {7, 7}, {5, 7, 7}, {5, 7, 6}, {7, 7, 7}, {1, 2, 2, 1}, {7, 5, 7, 5, 7}, {1, 1000000000}, {999999999, 1000000000, 1000000000}, {1, 2, 3, 4, 5}}
	for _, seqs := range rows {
		for _, order := range orders(len(seqs)) {
			var list []impl.State
			best := 0
			for i, at := range order {
				list = append(list, talksOf("ann", seqs[at], "r"+impl.DecText(i)))
				if seqs[at] > seqs[order[best]] {
					best = i
				}
			}
			checkMerge(t, "one client", list, list[best], true)
			// Another client in every state does not change it.
			want := impl.State{Talks: []impl.Talk{list[best].Talks[0], {Client: "bob", Seq: 6, Reply: "first"}}}
			for i := range list {
				reply := "first"
				if i > 0 {
					reply = "later"
				}
				list[i].Talks = append(list[i].Talks, impl.Talk{Client: "bob", Seq: 6, Reply: reply})
			}
			checkMerge(t, "two clients", list, want, true)
		}
	}
}

// TestMergeInterleaved merges states whose rows alternate.
func TestMergeInterleaved(t *testing.T) {
	for n := 1; n <= 9; n++ {
		for _, size := range []int{1, 5, 20} {
			s := stateOf(2*size, size)
			list := make([]impl.State, n)
			for i, x := range s.Items {
				list[i%n].Items = append(list[i%n].Items, x)
			}
			for i, x := range s.Talks {
				list[i%n].Talks = append(list[i%n].Talks, x)
			}
			checkMerge(t, "alternating", list, s, true)
			slices.Reverse(list)
			checkMerge(t, "alternating, turned", list, s, true)
		}
	}
}

// TestMergeLikeModel merges many rows of states.
func TestMergeLikeModel(t *testing.T) {
	merged := 0
	for start := range uint32(3000) {
		var list []impl.State
		for i := range 2 + start%3 {
			s := someState(10*start + i)
			// The states have only items of their own, so that some can be merged.
			s.Items = slices.DeleteFunc(s.Items, func(x impl.Item) bool { return start%4 > 0 && partOf(x.Key, 4) != int(i) })
			list = append(list, s)
		}
		want, ok := mergeOf(list)
		checkMerge(t, "many", list, want, ok)
		if ok {
			merged++
		}
	}
	if merged < 300 || merged > 2700 {
		t.Errorf("%d of 3000 rows of states can be merged", merged)
	}
}

// TestPartsAreTheWhole checks promise 5: every item is in exactly one part of a
// split, all talks are in each, and the parts, in any order, yield the state.
func TestPartsAreTheWhole(t *testing.T) {
	states := slices.Collect(maps.Values(validStates()))
	for start := range uint32(50) {
		states = append(states, someState(start))
	}
	for _, s := range states {
		for n := 1; n <= 8; n++ {
			parts := impl.Split(s, n)
			count := 0
			for i, part := range parts {
				count += len(part.Items)
				for _, x := range part.Items {
					if at := impl.ItemAt(s, x.Key); at < 0 || s.Items[at] != x || impl.PartOf(x.Key, n) != i {
						t.Fatalf("%v is in part %d of %d", x, i, n)
					}
				}
				if !impl.StateOk(part) || !slices.Equal(part.Talks, s.Talks) {
					t.Fatalf("part %d of %d is %v", i, n, part)
				}
			}
			if len(parts) != n || count != len(s.Items) || !impl.Apart(parts) {
				t.Fatalf("%d parts have %d items of %d", len(parts), count, len(s.Items))
			}
			for _, order := range orders(min(n, 4)) {
				turned := append(inOrder(parts[:len(order)], order), parts[len(order):]...)
				checkMerge(t, "parts of a split", turned, s, true)
			}
			slices.Reverse(parts)
			checkMerge(t, "turned parts of a split", parts, s, true)
		}
	}
}

// TestPartsAreNotSplitTwice splits the parts again, which changes nothing.
func TestPartsAreNotSplitTwice(t *testing.T) {
	s := stateOf(40, 20)
	for n := 1; n <= 8; n++ {
		for i, part := range impl.Split(s, n) {
			for k, again := range impl.Split(part, n) {
				want := impl.State{Talks: s.Talks}
				if k == i {
					want = part
				}
				checkState(t, "a part of a part", again, want)
			}
		}
	}
}

func TestApartOfNone(t *testing.T) {
	checkApart(t, "nil", nil, true)
	checkApart(t, "empty list", []impl.State{}, true)
	for n := range 20 {
		checkApart(t, "zero states", make([]impl.State, n), true)
		list := make([]impl.State, n)
		for i := range list {
			list[i].Talks = talkList(1 + i)
		}
		checkApart(t, "only talks", list, true)
	}
}

// TestApart puts one item, and the last of many, into every state.
func TestApart(t *testing.T) {
	for n := 1; n <= 12; n++ {
		for i := range 100 {
			key := numberedName(i)
			for at := range n {
				want := at == partOf(key, n)
				list := make([]impl.State, n)
				list[at] = itemsOf(key)
				checkApart(t, key, list, want)
				if n <= 8 {
					others := keysOfPart(at, n, 5)
					list[at] = itemsOf(append(others, key)...)
					checkApart(t, "the last of many", list, want)
					list[at] = itemsOf(append([]string{key}, others...)...)
					checkApart(t, "the first of many", list, want)
				}
			}
		}
	}
}

// TestApartOtherOrders turns the parts of a split around.
func TestApartOtherOrders(t *testing.T) {
	for n := 1; n <= 5; n++ {
		parts := splitOf(stateOf(40, 2), n)
		for _, order := range orders(n) {
			checkApart(t, "turned parts", inOrder(parts, order), slices.IsSorted(order))
		}
		for more := 1; n+more <= 10; more++ {
			list := append(slices.Clone(parts), make([]impl.State, more)...)
			checkApart(t, "more states", list, apartOf(list))
		}
		if n > 1 {
			checkApart(t, "a part less", parts[:n-1], apartOf(parts[:n-1]))
			checkApart(t, "one part of them", parts[1:2], true)
		}
	}
	// The empty parts of a split may be exchanged.
	list := splitOf(itemsOf("a", "b", "foobar"), 3)
	list[0], list[2] = list[2], list[0]
	checkApart(t, "exchanged empty parts", list, true)
	list[0], list[1] = list[1], list[0]
	checkApart(t, "exchanged parts", list, false)
}

// TestApartOfTooMany expects all items in the first of more than MaxParts
// states, because PartOf returns 0 for their number.
func TestApartOfTooMany(t *testing.T) {
	for _, n := range []int{9, 10, 16, 100} {
		first := make([]impl.State, n)
		first[0] = stateOf(40, 20)
		checkApart(t, "all in the first", first, true)
		byHash := make([]impl.State, n)
		for i, x := range itemList(40) {
			at := impl.Hash(x.Key) % n
			byHash[at].Items = append(byHash[at].Items, x)
			last := slices.Clone(first)
			last[1+i%(n-1)] = impl.State{Items: []impl.Item{x}}
			checkApart(t, "one in another", last, false)
		}
		checkApart(t, "by their hashes", byHash, false)
	}
}

// TestApartOfOtherStates expects that only the items count, even of states that
// are invalid: their order, number, names and talks do not.
func TestApartOfOtherStates(t *testing.T) {
	for what, s := range invalidStates() {
		checkApart(t, what, []impl.State{s}, true)
		for n := 2; n <= 9; n++ {
			list := splitOf(s, min(n, 8))
			list = append(list, make([]impl.State, n-len(list))...)
			checkApart(t, what, list, apartOf(list))
			for at := range n {
				list = make([]impl.State, n)
				list[at] = s
				checkApart(t, what, list, apartOf(list))
			}
		}
	}
	for what, s := range validStates() {
		for n := 2; n <= 9; n++ {
			list := make([]impl.State, n)
			for i := range list {
				list[i] = s
			}
			checkApart(t, what, list, len(s.Items) == 0)
		}
	}
}

func TestPartsAreDeterministic(t *testing.T) {
	for start := range uint32(20) {
		s := someState(start)
		for n := 1; n <= 8; n++ {
			parts := impl.Split(s, n)
			for range 20 {
				checkSplit(t, "again", s, n, parts)
				checkMerge(t, "again", parts, s, true)
			}
		}
	}
}

// partCalls returns a call for every part of a split, and calls of Merge with
// the state alone, first, last, with talks of its clients and in vain.
func partCalls() map[string]func(impl.State) impl.State {
	calls := map[string]func(impl.State) impl.State{}
	for n := range 10 {
		for i := range max(n, 1) {
			calls["Split "+impl.DecText(n)+" "+impl.DecText(i)] = func(s impl.State) impl.State {
				if parts := impl.Split(s, n); i < len(parts) {
					return parts[i]
				}
				return impl.State{}
			}
		}
	}
	merge := func(list ...impl.State) impl.State {
		s, _ := impl.Merge(list)
		return s
	}
	calls["Merge of one"] = func(s impl.State) impl.State { return merge(s) }
	calls["Merge of two"] = func(s impl.State) impl.State { return merge(s, impl.State{}) }
	calls["Merge, first"] = func(s impl.State) impl.State { return merge(s, itemsOf("q1"), talksOf("q1", 1, "r")) }
	calls["Merge, last"] = func(s impl.State) impl.State { return merge(itemsOf("q1"), talksOf("k000", 999, "r"), s) }
	calls["Merge of the same"] = func(s impl.State) impl.State { return merge(s, s) }
	calls["Merge of its talks"] = func(s impl.State) impl.State { return merge(s, impl.State{Talks: s.Talks}) }
	calls["Merge in vain"] = func(s impl.State) impl.State { return merge(s, impl.State{Items: make([]impl.Item, 1)}) }
	return calls
}

func TestPartsDoNotChangeStates(t *testing.T) { checkStatesStay(t, partCalls()) }

// TestPartsShareNothing overwrites each part of a split and expects the state
// and the other parts as they were.
func TestPartsShareNothing(t *testing.T) {
	for what, s := range validStates() {
		for n := 1; n <= 8; n++ {
			given := roomy(s)
			before := copied(whole(given))
			parts := impl.Split(given, n)
			want := splitOf(s, n)
			for i := range parts {
				overwrite(parts[i])
				for k := i + 1; k < n; k++ {
					checkState(t, what+": another part", parts[k], want[k])
				}
				checkState(t, what+": the state", whole(given), before)
			}
			spare := parts[:cap(parts)]
			for i := range spare {
				spare[i] = talksOf("over", 99, "written")
			}
			checkSplit(t, what, given, n, want)
		}
	}
}

// TestListsOfStatesStay expects the list of Merge and Apart as it was, with its
// spare capacity and that of its states.
func TestListsOfStatesStay(t *testing.T) {
	invalid := invalidStates()["equal keys apart"]
	rows := [][]impl.State{nil, {{}}, {stateOf(40, 20)}, splitOf(stateOf(40, 20), 3), {itemsOf("b"), itemsOf("a")}, {itemsOf("a"), itemsOf("a")}, {itemsOf("a"), invalid}, {stateOf(40, 0), stateOf(0, 21)}, make([]impl.State, 9)}
	for i, row := range rows {
		full := append(slices.Clone(row), itemsOf("spare1"), talksOf("spare2", 1, ""), impl.State{})
		var before []impl.State
		for k := range full {
			full[k] = roomy(full[k])
			before = append(before, copied(whole(full[k])))
		}
		list := full[:len(row)]
		impl.Apart(list)
		merged, ok := impl.Merge(list)
		if want, wantOk := impl.Merge(list); ok != wantOk || !sameLists(merged, want) {
			t.Errorf("row %d merges to %.100v and %.100v", i, merged, want)
		}
		overwrite(merged)
		for k := range full {
			checkState(t, "state "+impl.DecText(k)+" of row "+impl.DecText(i), whole(full[k]), before[k])
		}
	}
}

func FuzzPartOf(f *testing.F) {
	for _, n := range []int{-1, 0, 1, 3, 8, 9} {
		f.Add("k1", n)
		f.Add("", n)
	}
	f.Fuzz(func(t *testing.T, key string, n int) {
		if got := impl.PartOf(key, n); got != partOf(key, n) {
			t.Errorf("PartOf(%q, %d) = %d, want %d", key, n, got, partOf(key, n))
		}
	})
}
