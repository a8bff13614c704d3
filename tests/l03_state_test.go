package tests

import (
	"maps"
	"math"
	"slices"
	"sort"
	"strings"
	"testing"

	"loop.example/g00772/impl"
)

// longest is a value or reply of the greatest length.
var longest = strings.Repeat("v", 60)

// otherNames are strings that are no names.
var otherNames = []string{"", "A", "kA", "k b", " k", "k\n", "k\x00", "k-1", "abcdefghijklm", "\u00e9", "\xff", strings.Repeat("k", 1000)}

// numberedName returns names that ascend with n, from k000 to k999.
func numberedName(n int) string {
	digits := impl.DecText(n)
	return "k" + strings.Repeat("0", 3-len(digits)) + digits
}

// itemList returns n items with the names of even numbers, ascending.
func itemList(n int) []impl.Item {
	var list []impl.Item
	for i := range n {
		list = append(list, impl.Item{Key: numberedName(2 * i), Value: "v" + impl.DecText(i)})
	}
	return list
}

// talkList returns n talks with the names of even numbers, ascending.
func talkList(n int) []impl.Talk {
	var list []impl.Talk
	for i := range n {
		list = append(list, impl.Talk{Client: numberedName(2 * i), Seq: 7 + i, Reply: "r" + impl.DecText(i)})
	}
	return list
}

func stateOf(items int, talks int) impl.State {
	return impl.State{Items: itemList(items), Talks: talkList(talks)}
}

// withItem returns s with x as its item i.
func withItem(s impl.State, i int, x impl.Item) impl.State {
	items := slices.Clone(s.Items)
	items[i] = x
	return impl.State{Items: items, Talks: s.Talks}
}

// withTalk returns s with x as its talk i.
func withTalk(s impl.State, i int, x impl.Talk) impl.State {
	talks := slices.Clone(s.Talks)
	talks[i] = x
	return impl.State{Items: s.Items, Talks: talks}
}

// sameLists is the tests' own comparison of states.
func sameLists(a impl.State, b impl.State) bool {
	if len(a.Items) != len(b.Items) || len(a.Talks) != len(b.Talks) {
		return false
	}
	for i, x := range a.Items {
		if x.Key != b.Items[i].Key || x.Value != b.Items[i].Value {
			return false
		}
	}
	for i, x := range a.Talks {
		if x.Client != b.Talks[i].Client || x.Seq != b.Talks[i].Seq || x.Reply != b.Talks[i].Reply {
			return false
		}
	}
	return true
}

// validStates returns valid states up to the limits.
func validStates() map[string]impl.State {
	return map[string]impl.State{
		"zero":          {},
		"empty lists":   {Items: []impl.Item{}, Talks: []impl.Talk{}},
		"one item":      stateOf(1, 0),
		"one talk":      stateOf(0, 1),
		"some":          stateOf(5, 3),
		"full of items": stateOf(40, 0),
		"full of talks": stateOf(0, 20),
		"full":          stateOf(40, 20),
		"longest value": withItem(stateOf(5, 3), 2, impl.Item{Key: numberedName(4), Value: longest}),
		"any value":     withItem(stateOf(5, 3), 2, impl.Item{Key: numberedName(4), Value: "\x00\n \xff\u00e9"}),
		"longest reply": withTalk(stateOf(5, 3), 2, impl.Talk{Client: numberedName(4), Seq: 1, Reply: longest}),
		"any reply":     withTalk(stateOf(5, 3), 2, impl.Talk{Client: numberedName(4), Seq: 1, Reply: "\x00\n \xff\u00e9"}),
		"first seq":     withTalk(stateOf(5, 3), 1, impl.Talk{Client: numberedName(2), Seq: 1}),
		"last seq":      withTalk(stateOf(5, 3), 1, impl.Talk{Client: numberedName(2), Seq: 1000000000}),
		"equal values":  {Items: []impl.Item{{Key: "a", Value: "x"}, {Key: "b", Value: "x"}}},
		"equal replies": {Talks: []impl.Talk{{Client: "a", Seq: 1, Reply: "x"}, {Client: "b", Seq: 1, Reply: "x"}}},
		"one name":      {Items: []impl.Item{{Key: "a"}}, Talks: []impl.Talk{{Client: "a", Seq: 1}}},
		"prefixes": {
			Items: []impl.Item{{Key: "0"}, {Key: "00"}, {Key: "9"}, {Key: "a"}, {Key: "a0"}, {Key: "aa"}, {Key: "abcdefghijkl"}, {Key: "b"}},
			Talks: []impl.Talk{{Client: "0", Seq: 1}, {Client: "00", Seq: 1}, {Client: "9", Seq: 1}, {Client: "a", Seq: 1}, {Client: "a0", Seq: 1}, {Client: "aa", Seq: 1}, {Client: "abcdefghijkl", Seq: 1}, {Client: "b", Seq: 1}},
		},
	}
}

// invalidStates returns states with one defect each, wherever it may stand.
func invalidStates() map[string]impl.State {
	states := map[string]impl.State{
		"41 items":               stateOf(41, 0),
		"21 talks":               stateOf(0, 21),
		"41 items and 20 talks":  stateOf(41, 20),
		"40 items and 21 talks":  stateOf(40, 21),
		"many zero items":        {Items: make([]impl.Item, 1000)},
		"many zero talks":        {Talks: make([]impl.Talk, 1000)},
		"descending items":       {Items: []impl.Item{{Key: "b"}, {Key: "a"}}},
		"descending talks":       {Talks: []impl.Talk{{Client: "b", Seq: 1}, {Client: "a", Seq: 1}}},
		"prefix after":           {Items: []impl.Item{{Key: "aa"}, {Key: "a"}}},
		"prefix after for talks": {Talks: []impl.Talk{{Client: "aa", Seq: 1}, {Client: "a", Seq: 1}}},
		"equal keys apart":       {Items: []impl.Item{{Key: "a"}, {Key: "b"}, {Key: "a", Value: "2"}}},
		"equal clients apart":    {Talks: []impl.Talk{{Client: "a", Seq: 1}, {Client: "b", Seq: 1}, {Client: "a", Seq: 2}}},
	}
	for _, at := range []int{0, 1, 4} {
		place := " at " + impl.DecText(at)
		s := stateOf(5, 5)
		key := numberedName(2 * at)
		neighbour := numberedName(2 * max(at-1, 1-at))
		states["equal keys"+place] = withItem(s, at, impl.Item{Key: neighbour, Value: "x"})
		states["equal clients"+place] = withTalk(s, at, impl.Talk{Client: neighbour, Seq: 1})
		states["long value"+place] = withItem(s, at, impl.Item{Key: key, Value: longest + "v"})
		states["very long value"+place] = withItem(s, at, impl.Item{Key: key, Value: strings.Repeat("v", 65536)})
		states["long reply"+place] = withTalk(s, at, impl.Talk{Client: key, Seq: 1, Reply: longest + "v"})
		for _, seq := range []int{0, -1, 1000000001, math.MaxInt64, math.MinInt64} {
			states["seq "+impl.DecText(seq)+place] = withTalk(s, at, impl.Talk{Client: key, Seq: seq})
		}
		for _, name := range otherNames {
			states["key "+name+place] = withItem(s, at, impl.Item{Key: name})
			states["client "+name+place] = withTalk(s, at, impl.Talk{Client: name, Seq: 1})
		}
	}
	for _, name := range otherNames {
		states["only key "+name] = impl.State{Items: []impl.Item{{Key: name}}}
		states["only client "+name] = impl.State{Talks: []impl.Talk{{Client: name, Seq: 1}}}
	}
	return states
}

// otherItems are items that are invalid.
func otherItems() []impl.Item {
	list := []impl.Item{{Key: "k000", Value: longest + "v"}, {Key: "k001", Value: longest + "v"}, {Key: "a", Value: strings.Repeat("v", 65536)}}
	for _, name := range otherNames {
		list = append(list, impl.Item{Key: name}, impl.Item{Key: name, Value: "v"})
	}
	return list
}

// otherTalks are talks that are invalid.
func otherTalks() []impl.Talk {
	list := []impl.Talk{{Client: "k000", Seq: 1, Reply: longest + "v"}, {Client: "k001", Seq: 1, Reply: longest + "v"}}
	for _, seq := range []int{0, -1, 1000000001, math.MaxInt64, math.MinInt64} {
		list = append(list, impl.Talk{Client: "k000", Seq: seq}, impl.Talk{Client: "k001", Seq: seq})
	}
	for _, name := range otherNames {
		list = append(list, impl.Talk{Client: name, Seq: 1}, impl.Talk{Client: name, Seq: 1, Reply: "r"})
	}
	return list
}

func checkState(t *testing.T, what string, got impl.State, want impl.State) {
	t.Helper()
	if !sameLists(got, want) {
		t.Errorf("%.60q: the state is %.300v, want %.300v", what, got, want)
	}
}

func checkPutItem(t *testing.T, s impl.State, x impl.Item, want impl.State, ok bool) {
	t.Helper()
	got, gotOk := impl.PutItem(s, x)
	if gotOk != ok {
		t.Errorf("PutItem of %.60q = %v, want %v", x.Key, gotOk, ok)
	}
	checkState(t, "PutItem of "+x.Key, got, want)
}

func checkPutTalk(t *testing.T, s impl.State, x impl.Talk, want impl.State, ok bool) {
	t.Helper()
	got, gotOk := impl.PutTalk(s, x)
	if gotOk != ok {
		t.Errorf("PutTalk of %.60q = %v, want %v", x.Client, gotOk, ok)
	}
	checkState(t, "PutTalk of "+x.Client, got, want)
}

func TestStateLimits(t *testing.T) {
	if impl.MaxItems != 40 || impl.MaxTalks != 20 || impl.MaxValue != 60 || impl.MaxSeq != 1000000000 {
		t.Error("the limits of states are not those of the document")
	}
}

func TestStateOk(t *testing.T) {
	for what, s := range validStates() {
		if !impl.StateOk(s) {
			t.Errorf("StateOk of %s = false", what)
		}
	}
	for what, s := range invalidStates() {
		if impl.StateOk(s) {
			t.Errorf("StateOk of %.40q = true", what)
		}
	}
	for n := range 100 {
		if got := impl.StateOk(stateOf(n, 0)); got != (n <= 40) {
			t.Errorf("StateOk of %d items = %v", n, got)
		}
		if got := impl.StateOk(stateOf(0, n)); got != (n <= 20) {
			t.Errorf("StateOk of %d talks = %v", n, got)
		}
		value := strings.Repeat("\xff", n)
		if got := impl.StateOk(impl.State{Items: []impl.Item{{Key: "a", Value: value}}}); got != (n <= 60) {
			t.Errorf("StateOk with a value of %d bytes = %v", n, got)
		}
		if got := impl.StateOk(impl.State{Talks: []impl.Talk{{Client: "a", Seq: 1, Reply: value}}}); got != (n <= 60) {
			t.Errorf("StateOk with a reply of %d bytes = %v", n, got)
		}
	}
}

// TestStateOkOrder tries all rows of three short names.
func TestStateOkOrder(t *testing.T) {
	names := []string{"0", "9", "a", "a0", "aa", "ab", "b", "z", "za"}
	for i, a := range names {
		for k, b := range names {
			for m, c := range names {
				items := impl.State{Items: []impl.Item{{Key: a}, {Key: b}, {Key: c}}}
				talks := impl.State{Talks: []impl.Talk{{Client: a, Seq: 3}, {Client: b, Seq: 2}, {Client: c, Seq: 1}}}
				want := i < k && k < m
				if impl.StateOk(items) != want || impl.StateOk(talks) != want {
					t.Errorf("StateOk with %s, %s, %s is not %v", a, b, c, want)
				}
			}
		}
	}
}

func TestItemAtAndTalkAt(t *testing.T) {
	for _, n := range []int{0, 1, 2, 5, 20, 40, 100} {
		s := stateOf(n, n)
		for i := range 2*n + 2 {
			want := -1
			if i%2 == 0 && i < 2*n {
				want = i / 2
			}
			name := numberedName(i)
			if item, talk := impl.ItemAt(s, name), impl.TalkAt(s, name); item != want || talk != want {
				t.Errorf("of %d rows, %s is at %d and %d, want %d", n, name, item, talk, want)
			}
		}
		for _, name := range append([]string{"k", "k00", "k0000", "a", "z", "K000", "v0", "r0"}, otherNames...) {
			if item, talk := impl.ItemAt(s, name), impl.TalkAt(s, name); item != -1 || talk != -1 {
				t.Errorf("of %d rows, %.40q is at %d and %d", n, name, item, talk)
			}
		}
	}
}

func TestItemAtAndTalkAtOfOneKind(t *testing.T) {
	s := impl.State{Items: []impl.Item{{Key: "a"}, {Key: "b"}}, Talks: []impl.Talk{{Client: "b", Seq: 1}, {Client: "c", Seq: 1}}}
	for _, c := range []struct {
		name       string
		item, talk int
	}{{"a", 0, -1}, {"b", 1, 0}, {"c", -1, 1}, {"d", -1, -1}} {
		if item, talk := impl.ItemAt(s, c.name), impl.TalkAt(s, c.name); item != c.item || talk != c.talk {
			t.Errorf("%s is at %d and %d, want %d and %d", c.name, item, talk, c.item, c.talk)
		}
	}
}

// TestFirstOfInvalidState expects the first row with a name in states of any
// order, and of names that are none.
func TestFirstOfInvalidState(t *testing.T) {
	names := []string{"c", "a", "", "b", "a", "NO", "c", "b", "", "abcdefghijklm", "a", "NO"}
	s := impl.State{}
	for i, name := range names {
		s.Items = append(s.Items, impl.Item{Key: name, Value: impl.DecText(i) + longest})
		s.Talks = append(s.Talks, impl.Talk{Client: name, Seq: -i})
	}
	for _, name := range append(names, "d", "0", "B", "no") {
		want := slices.Index(names, name)
		if item, talk := impl.ItemAt(s, name), impl.TalkAt(s, name); item != want || talk != want {
			t.Errorf("%q is at %d and %d, want %d", name, item, talk, want)
		}
	}
	for what, s := range invalidStates() {
		for _, x := range s.Items {
			if at := impl.ItemAt(s, x.Key); at < 0 || s.Items[at].Key != x.Key || slices.ContainsFunc(s.Items[:at], func(y impl.Item) bool { return y.Key == x.Key }) {
				t.Errorf("%.40q: ItemAt of %.40q = %d", what, x.Key, at)
			}
		}
		for _, x := range s.Talks {
			if at := impl.TalkAt(s, x.Client); at < 0 || s.Talks[at].Client != x.Client || slices.ContainsFunc(s.Talks[:at], func(y impl.Talk) bool { return y.Client == x.Client }) {
				t.Errorf("%.40q: TalkAt of %.40q = %d", what, x.Client, at)
			}
		}
	}
}

func TestPutItemInserts(t *testing.T) {
	for _, n := range []int{0, 1, 2, 7, 38, 39, 40} {
		s := stateOf(n, 4)
		for at := range n + 1 {
			x := impl.Item{Key: "a", Value: longest}
			if at > 0 {
				x.Key = numberedName(2*at - 1)
			}
			want := s
			if n < 40 {
				want = impl.State{Items: slices.Insert(slices.Clone(s.Items), at, x), Talks: s.Talks}
			}
			checkPutItem(t, s, x, want, n < 40)
		}
	}
}

func TestPutItemReplaces(t *testing.T) {
	for _, n := range []int{1, 2, 7, 39, 40} {
		s := stateOf(n, 20)
		for at := range n {
			for _, value := range []string{"", "x", "\x00\n\xff", longest, s.Items[at].Value} {
				x := impl.Item{Key: numberedName(2 * at), Value: value}
				checkPutItem(t, s, x, withItem(s, at, x), true)
			}
		}
	}
}

func TestPutTalkInserts(t *testing.T) {
	for _, n := range []int{0, 1, 2, 7, 18, 19, 20} {
		s := stateOf(4, n)
		for at := range n + 1 {
			x := impl.Talk{Client: "a", Seq: 1000000000, Reply: longest}
			if at > 0 {
				x.Client = numberedName(2*at - 1)
			}
			want := s
			if n < 20 {
				want = impl.State{Items: s.Items, Talks: slices.Insert(slices.Clone(s.Talks), at, x)}
			}
			checkPutTalk(t, s, x, want, n < 20)
		}
	}
}

// TestPutTalkReplaces replaces talks also by those with a lower number.
func TestPutTalkReplaces(t *testing.T) {
	for _, n := range []int{1, 2, 7, 19, 20} {
		s := stateOf(40, n)
		for at := range n {
			for _, seq := range []int{1, 2, s.Talks[at].Seq, 999999999, 1000000000} {
				for _, reply := range []string{"", "x", longest, s.Talks[at].Reply} {
					x := impl.Talk{Client: numberedName(2 * at), Seq: seq, Reply: reply}
					checkPutTalk(t, s, x, withTalk(s, at, x), true)
				}
			}
		}
	}
}

// TestPutRejectsRows puts invalid rows, some of them in place of valid ones.
func TestPutRejectsRows(t *testing.T) {
	for _, s := range validStates() {
		for _, x := range otherItems() {
			checkPutItem(t, s, x, s, false)
		}
		for _, x := range otherTalks() {
			checkPutTalk(t, s, x, s, false)
		}
	}
}

// TestPutRejectsStates puts valid rows into invalid states. Each of the rows
// is also put in place of the invalid ones, which does not help.
func TestPutRejectsStates(t *testing.T) {
	for _, s := range invalidStates() {
		names := []string{"a", "k000", "k001", "k002", "k008", "z"}
		for _, x := range s.Items {
			names = append(names, x.Key)
		}
		for _, x := range s.Talks {
			names = append(names, x.Client)
		}
		for _, name := range names {
			checkPutItem(t, s, impl.Item{Key: name}, s, false)
			checkPutTalk(t, s, impl.Talk{Client: name, Seq: 1}, s, false)
		}
		for _, x := range otherItems() {
			checkPutItem(t, s, x, s, false)
		}
		for _, x := range otherTalks() {
			checkPutTalk(t, s, x, s, false)
		}
	}
}

func TestDropItem(t *testing.T) {
	for what, s := range validStates() {
		for at, x := range s.Items {
			want := impl.State{Items: slices.Delete(slices.Clone(s.Items), at, at+1), Talks: s.Talks}
			checkState(t, what+" without "+x.Key, impl.DropItem(s, x.Key), want)
		}
		for _, key := range append([]string{"k001", "k079", "k099", "k", "k00", "k0000", "zz"}, otherNames...) {
			checkState(t, what+" without "+key, impl.DropItem(s, key), s)
		}
	}
}

// TestDropItemOfInvalidState expects every invalid state unchanged, even if it
// would be valid without the item.
func TestDropItemOfInvalidState(t *testing.T) {
	for what, s := range invalidStates() {
		for _, x := range s.Items {
			checkState(t, what, impl.DropItem(s, x.Key), s)
		}
		for _, key := range append([]string{"a", "b", "k000", "k008", "none"}, otherNames...) {
			checkState(t, what, impl.DropItem(s, key), s)
		}
	}
	invalidTalks := impl.State{Items: []impl.Item{{Key: "a"}}, Talks: []impl.Talk{{Client: "a"}}}
	checkState(t, "an invalid talk", impl.DropItem(invalidTalks, "a"), invalidTalks)
}

// TestSameState compares states that differ in one field, both ways round.
func TestSameState(t *testing.T) {
	s := impl.State{
		Items: []impl.Item{{Key: "a", Value: "1"}, {Key: "b", Value: "2"}},
		Talks: []impl.Talk{{Client: "c", Seq: 3, Reply: "4"}, {Client: "d", Seq: 5, Reply: "6"}},
	}
	others := map[string]impl.State{
		"zero":       {},
		"no items":   {Talks: s.Talks},
		"no talks":   {Items: s.Items},
		"fewer":      {Items: s.Items[:1], Talks: s.Talks},
		"the last":   {Items: s.Items[1:], Talks: s.Talks},
		"less talk":  {Items: s.Items, Talks: s.Talks[:1]},
		"more":       {Items: append(slices.Clone(s.Items), impl.Item{}), Talks: s.Talks},
		"more talk":  {Items: s.Items, Talks: append(slices.Clone(s.Talks), impl.Talk{})},
		"turned":     {Items: []impl.Item{s.Items[1], s.Items[0]}, Talks: s.Talks},
		"turn talks": {Items: s.Items, Talks: []impl.Talk{s.Talks[1], s.Talks[0]}},
	}
	for at := range 2 {
		for _, text := range []string{"", "1\x00", "x", "A", "a ", longest + longest} {
			place := text + impl.DecText(at)
			others["key "+place] = withItem(s, at, impl.Item{Key: text, Value: s.Items[at].Value})
			others["value "+place] = withItem(s, at, impl.Item{Key: s.Items[at].Key, Value: text})
			others["client "+place] = withTalk(s, at, impl.Talk{Client: text, Seq: s.Talks[at].Seq, Reply: s.Talks[at].Reply})
			others["reply "+place] = withTalk(s, at, impl.Talk{Client: s.Talks[at].Client, Seq: s.Talks[at].Seq, Reply: text})
		}
		for _, seq := range []int{0, 4, -3, -5, 1<<32 + 3, 1<<32 + 5, math.MinInt64, math.MaxInt64} {
			others["seq "+impl.DecText(seq)+impl.DecText(at)] = withTalk(s, at, impl.Talk{Client: s.Talks[at].Client, Seq: seq, Reply: s.Talks[at].Reply})
		}
	}
	for what, other := range others {
		if impl.SameState(s, other) || impl.SameState(other, s) {
			t.Errorf("%.40q is the same state", what)
		}
	}
}

func TestSameStateOfCopies(t *testing.T) {
	states := slices.Concat(slices.Collect(maps.Values(validStates())), slices.Collect(maps.Values(invalidStates())))
	for i, a := range states {
		copied := impl.State{Items: append([]impl.Item{}, a.Items...), Talks: append([]impl.Talk{}, a.Talks...)}
		if !impl.SameState(a, copied) || !impl.SameState(copied, a) || !impl.SameState(a, a) {
			t.Errorf("state %d is not the same as its copy", i)
		}
		for _, b := range states {
			if got := impl.SameState(a, b); got != sameLists(a, b) {
				t.Errorf("SameState(%.100v, %.100v) = %v", a, b, got)
			}
		}
	}
	for _, a := range []impl.State{{}, {Items: []impl.Item{}}, {Talks: []impl.Talk{}}, {Items: []impl.Item{}, Talks: []impl.Talk{}}, {Items: make([]impl.Item, 0, 9)}} {
		if !impl.SameState(a, impl.State{}) || !impl.SameState(impl.State{}, a) {
			t.Error("nil and empty lists are not the same")
		}
	}
}

// stateOfMaps returns the state with the rows of both maps.
func stateOfMaps(items map[string]string, talks map[string]impl.Talk) impl.State {
	s := impl.State{}
	for key, value := range items {
		s.Items = append(s.Items, impl.Item{Key: key, Value: value})
	}
	for _, x := range talks {
		s.Talks = append(s.Talks, x)
	}
	sort.Slice(s.Items, func(i, k int) bool { return s.Items[i].Key < s.Items[k].Key })
	sort.Slice(s.Talks, func(i, k int) bool { return s.Talks[i].Client < s.Talks[k].Client })
	return s
}

// TestStoredItemsArePresent checks promise 3: a long row of changes, some of
// them impossible, has the same effect as on maps, and every state is valid.
func TestStoredItemsArePresent(t *testing.T) {
	s := impl.State{}
	items, talks := map[string]string{}, map[string]impl.Talk{}
	changes := someBytes(3*20000, 14)
	for i := range len(changes) / 3 {
		kind, name, size := changes[3*i]%8, numberedName(int(changes[3*i+1])%46), int(changes[3*i+2])
		text := strings.Repeat("x", size%62)
		ok, want := true, true
		switch {
		case kind < 3:
			s, ok = impl.PutItem(s, impl.Item{Key: name, Value: text})
			_, has := items[name]
			if want = len(text) <= 60 && (has || len(items) < 40); want {
				items[name] = text
			}
		case kind < 4:
			s = impl.DropItem(s, name)
			delete(items, name)
		default:
			// Some numbers are invalid, and all clients are tried once the list is full.
			x := impl.Talk{Client: name, Seq: size % 40, Reply: text}
			s, ok = impl.PutTalk(s, x)
			_, has := talks[name]
			if want = x.Seq > 0 && len(text) <= 60 && (has || len(talks) < 20); want {
				talks[name] = x
			}
		}
		if ok != want || !impl.StateOk(s) || !sameLists(s, stateOfMaps(items, talks)) {
			t.Fatalf("change %d of %s gives %v, want %v, and %.200v", i, name, ok, want, s)
		}
		at, talkAt := impl.ItemAt(s, name), impl.TalkAt(s, name)
		if value, has := items[name]; has != (at >= 0) || has && s.Items[at] != (impl.Item{Key: name, Value: value}) {
			t.Fatalf("change %d: %s is at %d", i, name, at)
		}
		if x, has := talks[name]; has != (talkAt >= 0) || has && s.Talks[talkAt] != x {
			t.Fatalf("change %d: the talk of %s is at %d", i, name, talkAt)
		}
	}
	if len(items) < 30 || len(talks) != 20 {
		t.Errorf("the changes end with %d items and %d talks", len(items), len(talks))
	}
}

// stateCalls returns a call of every function that returns a state, with rows
// that are inserted, replaced, dropped, absent or invalid.
func stateCalls() map[string]func(impl.State) impl.State {
	calls := map[string]func(impl.State) impl.State{}
	for _, name := range []string{"a", "k000", "k001", "k002", "k008", "z", "", "NO"} {
		calls["PutItem "+name] = func(s impl.State) impl.State {
			next, _ := impl.PutItem(s, impl.Item{Key: name, Value: "new"})
			return next
		}
		calls["PutTalk "+name] = func(s impl.State) impl.State {
			next, _ := impl.PutTalk(s, impl.Talk{Client: name, Seq: 9, Reply: "new"})
			return next
		}
		calls["DropItem "+name] = func(s impl.State) impl.State { return impl.DropItem(s, name) }
	}
	return calls
}

// roomy returns s with spare capacity behind both lists, filled with rows that
// must stay.
func roomy(s impl.State) impl.State {
	items := append(slices.Clone(s.Items), impl.Item{Key: "spare1"}, impl.Item{Key: "spare2"}, impl.Item{Key: "spare3"})
	talks := append(slices.Clone(s.Talks), impl.Talk{Client: "spare1"}, impl.Talk{Client: "spare2"}, impl.Talk{Client: "spare3"})
	return impl.State{Items: items[:len(s.Items)], Talks: talks[:len(s.Talks)]}
}

// whole returns s with the lists as long as their capacity.
func whole(s impl.State) impl.State {
	return impl.State{Items: s.Items[:cap(s.Items)], Talks: s.Talks[:cap(s.Talks)]}
}

// overwrite changes all memory of s, also behind its lists.
func overwrite(s impl.State) {
	s = whole(s)
	for i := range s.Items {
		s.Items[i] = impl.Item{Key: "over", Value: "written"}
	}
	for i := range s.Talks {
		s.Talks[i] = impl.Talk{Client: "over", Seq: 99, Reply: "written"}
	}
}

func copied(s impl.State) impl.State {
	return impl.State{Items: slices.Clone(s.Items), Talks: slices.Clone(s.Talks)}
}

// checkStatesStay checks promise 15 for calls that return a state: an argument
// stays as it was, with its spare capacity, also when the result is overwritten,
// and the result stays when the argument or the result of another call is.
func checkStatesStay(t *testing.T, calls map[string]func(impl.State) impl.State) {
	t.Helper()
	states := invalidStates()
	maps.Copy(states, validStates())
	for what, s := range states {
		for name, call := range calls {
			given := roomy(s)
			before := copied(whole(given))
			first, second := call(given), call(given)
			want := copied(second)
			if !sameLists(whole(given), before) || !sameLists(first, second) {
				t.Fatalf("%.40q: %s changes its argument", what, name)
			}
			overwrite(first)
			if !sameLists(whole(given), before) || !sameLists(second, want) {
				t.Fatalf("%.40q: the result of %s shares memory", what, name)
			}
			overwrite(given)
			if !sameLists(second, want) {
				t.Fatalf("%.40q: the result of %s shares memory with its argument", what, name)
			}
		}
	}
}

func TestStatesAreNotChanged(t *testing.T) { checkStatesStay(t, stateCalls()) }

func TestQuestionsDoNotChangeStates(t *testing.T) {
	states := invalidStates()
	maps.Copy(states, validStates())
	for what, s := range states {
		a, b := roomy(s), roomy(s)
		before := copied(whole(a))
		impl.StateOk(a)
		impl.ItemAt(a, "k000")
		impl.TalkAt(a, "none")
		impl.SameState(a, b)
		if !sameLists(whole(a), before) || !sameLists(whole(b), before) {
			t.Errorf("%.40q is changed by a question", what)
		}
	}
}
