package tests

import (
	"maps"
	"math"
	"regexp"
	"slices"
	"strings"
	"testing"

	"loop.example/g00772/impl"
)

var allKinds = []int{impl.OpGet, impl.OpPut, impl.OpDel}

// otherSeqs are numbers that no request has.
var otherSeqs = []int{0, -1, -5, 1000000001, 1<<32 + 1, math.MaxInt64, math.MinInt64}

// opOf returns an operation that is valid if client and key are names and seq
// is in its range.
func opOf(client string, seq int, kind int, key string) impl.Op {
	x := impl.Op{Client: client, Seq: seq, Kind: kind, Key: key}
	if kind == impl.OpPut {
		x.Value = "new"
	}
	return x
}

// otherOps returns operations with one defect each, with that client, number
// and key otherwise.
func otherOps(client string, seq int, key string) []impl.Op {
	var list []impl.Op
	for _, kind := range []int{-1, 3, 4, 256, 1 << 32, math.MinInt64, math.MaxInt64} {
		list = append(list, opOf(client, seq, kind, key))
	}
	for _, kind := range allKinds {
		for _, name := range otherNames {
			list = append(list, opOf(name, seq, kind, key), opOf(client, seq, kind, name))
		}
		for _, other := range otherSeqs {
			list = append(list, opOf(client, other, kind, key))
		}
		value := longest + "v"
		if kind != impl.OpPut {
			value = "v"
		}
		for _, v := range []string{value, longest + longest} {
			list = append(list, impl.Op{Client: client, Seq: seq, Kind: kind, Key: key, Value: v})
		}
	}
	return append(list, impl.Op{})
}

func checkApply(t *testing.T, s impl.State, x impl.Op, want impl.State, reply string, code int) {
	t.Helper()
	got, gotReply, gotCode := impl.Apply(s, x)
	if gotReply != reply || gotCode != code {
		t.Errorf("Apply of %#.200v = %.60q, %d, want %.60q, %d", x, gotReply, gotCode, reply, code)
	}
	checkState(t, "Apply of "+x.Client+" "+x.Key, got, want)
}

// model is the tests' own state, on which apply follows the document.
type model struct {
	items map[string]string
	talks map[string]impl.Talk
}

func modelOf(s impl.State) model {
	m := model{items: map[string]string{}, talks: map[string]impl.Talk{}}
	for _, x := range s.Items {
		m.items[x.Key] = x.Value
	}
	for _, x := range s.Talks {
		m.talks[x.Client] = x
	}
	return m
}

func (m model) state() impl.State { return stateOfMaps(m.items, m.talks) }

// apply executes a valid operation.
func (m model) apply(x impl.Op) (string, int) {
	talk, known := m.talks[x.Client]
	if known && talk.Seq == x.Seq {
		return talk.Reply, 0
	}
	if known && talk.Seq > x.Seq {
		return "", 1
	}
	reply, has := m.items[x.Key]
	if !known && len(m.talks) == 20 || x.Kind == impl.OpPut && !has && len(m.items) == 40 {
		return "", 3
	}
	switch x.Kind {
	case impl.OpPut:
		m.items[x.Key] = x.Value
	case impl.OpDel:
		delete(m.items, x.Key)
	}
	m.talks[x.Client] = impl.Talk{Client: x.Client, Seq: x.Seq, Reply: reply}
	return reply, 0
}

func TestOpConstants(t *testing.T) {
	if impl.OpGet != 0 || impl.OpPut != 1 || impl.OpDel != 2 {
		t.Error("the kinds are not those of the document")
	}
	if impl.ReOk != 0 || impl.ReOld != 1 || impl.ReBad != 2 || impl.ReFull != 3 {
		t.Error("the codes are not those of the document")
	}
}

func TestOpOk(t *testing.T) {
	for _, kind := range allKinds {
		for _, name := range []string{"a", "z", "0", "9", "k1", "abcdefghijkl", "012345678901"} {
			for _, seq := range []int{1, 2, 999999999, 1000000000} {
				if !impl.OpOk(opOf(name, seq, kind, "k")) || !impl.OpOk(opOf("c", seq, kind, name)) {
					t.Errorf("OpOk with name %s, number %d and kind %d = false", name, seq, kind)
				}
			}
		}
		for n := range 100 {
			x := impl.Op{Client: "c", Seq: 1, Kind: kind, Key: "k", Value: strings.Repeat("\xff", n)}
			want := n == 0 || kind == impl.OpPut && n <= 60
			if got := impl.OpOk(x); got != want {
				t.Errorf("OpOk with kind %d and a value of %d bytes = %v", kind, n, got)
			}
		}
	}
	for _, value := range []string{" ", "\n", "\x00", "a b\tc\n", "\u00e9"} {
		if !impl.OpOk(impl.Op{Client: "c", Seq: 1, Kind: impl.OpPut, Key: "k", Value: value}) {
			t.Errorf("OpOk with the value %q = false", value)
		}
	}
	for _, x := range otherOps("c", 1, "k") {
		if impl.OpOk(x) {
			t.Errorf("OpOk of %#.200v = true", x)
		}
	}
}

// TestOpOkNames tries every byte in both names.
func TestOpOkNames(t *testing.T) {
	for c := range 256 {
		name := "k" + string([]byte{byte(c)})
		want := c >= 'a' && c <= 'z' || c >= '0' && c <= '9'
		for _, kind := range allKinds {
			if impl.OpOk(opOf(name, 1, kind, "k")) != want || impl.OpOk(opOf("c", 1, kind, name)) != want {
				t.Errorf("OpOk with the name %q is not %v", name, want)
			}
		}
	}
}

func TestApplyGet(t *testing.T) {
	s := impl.State{Items: []impl.Item{{Key: "a", Value: "1"}, {Key: "b"}}, Talks: []impl.Talk{{Client: "c", Seq: 5, Reply: "r"}}}
	rows := []struct{ key, reply string }{{"a", "1"}, {"b", ""}, {"none", ""}}
	for _, row := range rows {
		want := withTalk(s, 0, impl.Talk{Client: "c", Seq: 6, Reply: row.reply})
		checkApply(t, s, opOf("c", 6, impl.OpGet, row.key), want, row.reply, impl.ReOk)
	}
}

func TestApplyPut(t *testing.T) {
	s := impl.State{Items: []impl.Item{{Key: "b", Value: "1"}, {Key: "d"}}, Talks: []impl.Talk{{Client: "c", Seq: 5, Reply: "r"}}}
	items := func(list ...impl.Item) []impl.Item { return list }
	b, d := s.Items[0], s.Items[1]
	for _, value := range []string{"", "x", "1", " \n\x00\xff", longest} {
		rows := []struct {
			key, reply string
			items      []impl.Item
		}{
			{"b", "1", items(impl.Item{Key: "b", Value: value}, d)},
			{"d", "", items(b, impl.Item{Key: "d", Value: value})},
			{"a", "", items(impl.Item{Key: "a", Value: value}, b, d)},
			{"c", "", items(b, impl.Item{Key: "c", Value: value}, d)},
			{"e", "", items(b, d, impl.Item{Key: "e", Value: value})},
		}
		for _, row := range rows {
			want := impl.State{Items: row.items, Talks: []impl.Talk{{Client: "c", Seq: 6, Reply: row.reply}}}
			checkApply(t, s, impl.Op{Client: "c", Seq: 6, Kind: impl.OpPut, Key: row.key, Value: value}, want, row.reply, impl.ReOk)
		}
	}
}

func TestApplyDel(t *testing.T) {
	s := impl.State{Items: []impl.Item{{Key: "a", Value: longest}, {Key: "b"}}, Talks: []impl.Talk{{Client: "c", Seq: 5, Reply: "r"}}}
	rows := []struct {
		key, reply string
		items      []impl.Item
	}{{"a", longest, s.Items[1:]}, {"b", "", s.Items[:1]}, {"none", "", s.Items}}
	for _, row := range rows {
		want := impl.State{Items: row.items, Talks: []impl.Talk{{Client: "c", Seq: 6, Reply: row.reply}}}
		checkApply(t, s, opOf("c", 6, impl.OpDel, row.key), want, row.reply, impl.ReOk)
	}
}

// TestApplyFirstRequest expects the talk of a new client at its position,
// whatever number its request has.
func TestApplyFirstRequest(t *testing.T) {
	s := impl.State{Items: []impl.Item{{Key: "k", Value: "1"}}, Talks: []impl.Talk{{Client: "b", Seq: 1000000000, Reply: "r"}, {Client: "d", Seq: 1}}}
	for at, client := range []string{"a", "c", "e"} {
		for _, seq := range []int{1, 2, 999999999, 1000000000} {
			talks := slices.Insert(slices.Clone(s.Talks), at, impl.Talk{Client: client, Seq: seq, Reply: "1"})
			checkApply(t, s, opOf(client, seq, impl.OpGet, "k"), impl.State{Items: s.Items, Talks: talks}, "1", impl.ReOk)
			put := impl.Op{Client: client, Seq: seq, Kind: impl.OpPut, Key: "k", Value: "2"}
			checkApply(t, s, put, impl.State{Items: []impl.Item{{Key: "k", Value: "2"}}, Talks: talks}, "1", impl.ReOk)
			checkApply(t, s, opOf(client, seq, impl.OpDel, "k"), impl.State{Talks: talks}, "1", impl.ReOk)
		}
	}
}

// TestApplySameNumber repeats a number with every kind, key and value: only the
// reply of the talk comes back.
func TestApplySameNumber(t *testing.T) {
	for what, s := range validStates() {
		for _, talk := range s.Talks {
			for _, kind := range allKinds {
				for _, key := range []string{"k000", "k001", "a", "zzz"} {
					checkApply(t, s, opOf(talk.Client, talk.Seq, kind, key), s, talk.Reply, impl.ReOk)
				}
			}
			if t.Failed() {
				t.Fatalf("in the state %s", what)
			}
		}
	}
}

// TestApplyOtherNumbers uses smaller and greater numbers, near and far.
func TestApplyOtherNumbers(t *testing.T) {
	for _, last := range []int{1, 2, 500, 999999999, 1000000000} {
		s := impl.State{Items: itemList(2), Talks: []impl.Talk{{Client: "a", Seq: 3}, {Client: "c", Seq: last, Reply: "r"}, {Client: "d", Seq: 1000000000}}}
		for _, seq := range []int{1, last - 1, last + 1, 1000000000} {
			for _, kind := range allKinds {
				for _, key := range []string{"k000", "k001"} {
					x := opOf("c", seq, kind, key)
					m := modelOf(s)
					switch {
					case seq < 1 || seq > 1000000000:
						checkApply(t, s, x, s, "", impl.ReBad)
					case seq < last:
						checkApply(t, s, x, s, "", impl.ReOld)
					case seq == last:
						checkApply(t, s, x, s, "r", impl.ReOk)
					default:
						reply, _ := m.apply(x)
						checkApply(t, s, x, m.state(), reply, impl.ReOk)
					}
				}
			}
		}
	}
}

// TestApplyFull expects that a full list takes only what is in it.
func TestApplyFull(t *testing.T) {
	for _, size := range []struct{ items, talks int }{{39, 19}, {39, 20}, {40, 19}, {40, 20}, {0, 20}, {40, 0}} {
		s := stateOf(size.items, size.talks)
		for _, client := range []string{"k000", "k038", "a", "k001", "zzz"} {
			for _, key := range []string{"k000", "k078", "a", "k001", "zzz"} {
				for _, kind := range allKinds {
					x := opOf(client, 999, kind, key)
					m := modelOf(s)
					reply, code := m.apply(x)
					newClient := size.talks == 20 && impl.TalkAt(s, client) < 0
					newKey := size.items == 40 && kind == impl.OpPut && impl.ItemAt(s, key) < 0
					if (code == impl.ReFull) != (newClient || newKey) {
						t.Fatalf("the model gives %d for %#v", code, x)
					}
					checkApply(t, s, x, m.state(), reply, code)
				}
			}
		}
	}
}

// TestApplyFullRepeats expects old replies from a full state, and room again
// after a key is deleted.
func TestApplyFullRepeats(t *testing.T) {
	s := stateOf(40, 20)
	put := opOf("k000", 7, impl.OpPut, "new")
	checkApply(t, s, put, s, "r0", impl.ReOk)
	put.Seq = 6
	checkApply(t, s, put, s, "", impl.ReOld)
	put.Seq = 9
	checkApply(t, s, put, s, "", impl.ReFull)
	s, reply, code := impl.Apply(s, opOf("k000", 8, impl.OpDel, "k078"))
	if reply != "v39" || code != impl.ReOk {
		t.Errorf("a deletion gives %q, %d", reply, code)
	}
	// The refused request left no trace, so that it can be sent again.
	if got, reply, code := impl.Apply(s, put); reply != "" || code != impl.ReOk || len(got.Items) != 40 || got.Talks[0] != (impl.Talk{Client: "k000", Seq: 9}) {
		t.Errorf("there is no room: %q, %d", reply, code)
	}
}

func TestApplyRejectsStates(t *testing.T) {
	for _, s := range invalidStates() {
		list := []impl.Op{opOf("a", 1, impl.OpGet, "a"), opOf("new", 5, impl.OpPut, "k000"), opOf("k000", 7, impl.OpDel, "k000"), opOf("k000", 6, impl.OpPut, "a"), opOf("k000", 999, impl.OpDel, "k008"), {}}
		for _, talk := range s.Talks {
			list = append(list, opOf(talk.Client, talk.Seq, impl.OpGet, "a"), opOf(talk.Client, 1, impl.OpPut, "a"))
		}
		for _, item := range s.Items {
			list = append(list, opOf("a", 1000000000, impl.OpDel, item.Key), opOf("a", 1000000000, impl.OpPut, item.Key))
		}
		for _, x := range list {
			checkApply(t, s, x, s, "", impl.ReBad)
		}
	}
}

// TestApplyRejectsOps uses invalid operations, also with the number of a talk
// and with an old one, and in full states.
func TestApplyRejectsOps(t *testing.T) {
	for _, s := range validStates() {
		var list []impl.Op
		for _, seq := range []int{1, 6, 7, 8, 1000000000} {
			list = append(list, otherOps("k000", seq, "k000")...)
		}
		list = append(list, otherOps("new", 1, "new")...)
		for _, talk := range s.Talks {
			list = append(list, impl.Op{Client: talk.Client, Seq: talk.Seq, Key: "NO"}, impl.Op{Client: talk.Client, Seq: talk.Seq, Key: "k", Value: "x"}, impl.Op{Client: talk.Client, Seq: talk.Seq, Kind: 3, Key: "k"})
		}
		for _, x := range list {
			checkApply(t, s, x, s, "", impl.ReBad)
		}
	}
}

// someOps returns n operations of a few clients, most of them valid, with
// numbers that often repeat or fall behind.
func someOps(n int, start uint32) []impl.Op {
	choices := someBytes(5*n, start)
	var list []impl.Op
	for i := range n {
		c := choices[5*i:]
		x := impl.Op{
			Client: numberedName(int(c[0]) % 24),
			Seq:    1 + i/100 + int(c[1])%4,
			Kind:   int(c[2]) % 3,
			Key:    numberedName(int(c[3]) % 46),
		}
		if x.Kind == impl.OpPut {
			x.Value = strings.Repeat("v", int(c[4])%61)
		}
		// Puts come more often, so that the items become full.
		if c[4]%2 == 0 && x.Kind == impl.OpDel {
			x.Kind = impl.OpPut
		}
		if c[4] == 77 {
			x = otherOps(x.Client, x.Seq, x.Key)[int(c[0])%20]
		}
		list = append(list, x)
	}
	return list
}

// TestRequestsAreExecutedOnce checks promise 4: a long row of requests has the
// same effect as on maps, a request that is executed gives the same reply and
// the same state when it is repeated, and one that is behind gives nothing.
func TestRequestsAreExecutedOnce(t *testing.T) {
	s, m := impl.State{}, modelOf(impl.State{})
	codes := map[int]int{}
	for i, x := range someOps(20000, 4) {
		wantReply, wantCode := "", impl.ReBad
		if impl.OpOk(x) {
			wantReply, wantCode = m.apply(x)
		}
		next, reply, code := impl.Apply(s, x)
		if reply != wantReply || code != wantCode || !impl.StateOk(next) || !sameLists(next, m.state()) {
			t.Fatalf("request %d %#v gives %q, %d, want %q, %d", i, x, reply, code, wantReply, wantCode)
		}
		codes[code]++
		again, againReply, againCode := impl.Apply(next, x)
		if againReply != reply || againCode != code || !sameLists(again, next) {
			t.Fatalf("request %d %#v, repeated, gives %q, %d", i, x, againReply, againCode)
		}
		if code == impl.ReOk && x.Seq > 1 {
			x.Seq--
			if behind, reply, code := impl.Apply(next, x); reply != "" || code != impl.ReOld || !sameLists(behind, next) {
				t.Fatalf("request %d %#v, outdated, gives %q, %d", i, x, reply, code)
			}
		}
		s = next
	}
	if len(codes) != 4 || len(s.Talks) != 20 {
		t.Errorf("the requests have only the codes %v", codes)
	}
}

// TestRepeatsAmongOthers repeats every request after one of another client that
// changes the same key: the first reply comes back, and the change stays.
func TestRepeatsAmongOthers(t *testing.T) {
	for _, kind := range allKinds {
		for _, other := range allKinds {
			s := impl.State{Items: []impl.Item{{Key: "k", Value: "0"}}}
			x := impl.Op{Client: "ann", Seq: 4, Kind: kind, Key: "k"}
			y := impl.Op{Client: "bob", Seq: 1, Kind: other, Key: "k"}
			if other == impl.OpPut {
				y.Value = "2"
			}
			s, _, _ = impl.Apply(s, x)
			s, _, _ = impl.Apply(s, y)
			checkApply(t, s, x, s, "0", impl.ReOk)
		}
	}
}

func checkApplyAll(t *testing.T, s impl.State, list []impl.Op, want impl.State, replies []string) {
	t.Helper()
	got, gotReplies := impl.ApplyAll(s, list)
	if !slices.Equal(gotReplies, replies) {
		t.Errorf("ApplyAll of %d operations replies %.300q, want %.300q", len(list), gotReplies, replies)
	}
	checkState(t, "ApplyAll", got, want)
}

func TestApplyAll(t *testing.T) {
	put := impl.Op{Client: "a", Seq: 1, Kind: impl.OpPut, Key: "k", Value: "1"}
	get := impl.Op{Client: "b", Seq: 1, Key: "k"}
	del := impl.Op{Client: "a", Seq: 2, Kind: impl.OpDel, Key: "k"}
	bad := impl.Op{Client: "a", Seq: 9, Kind: 3, Key: "k"}
	one := []impl.Item{{Key: "k", Value: "1"}}
	putTalk, getTalk := impl.Talk{Client: "a", Seq: 1}, impl.Talk{Client: "b", Seq: 1, Reply: "1"}
	delTalk := impl.Talk{Client: "a", Seq: 2, Reply: "1"}
	cases := []struct {
		list    []impl.Op
		want    impl.State
		replies []string
	}{
		{nil, impl.State{}, nil},
		{[]impl.Op{}, impl.State{}, nil},
		{[]impl.Op{put}, impl.State{Items: one, Talks: []impl.Talk{putTalk}}, []string{""}},
		{[]impl.Op{put, get}, impl.State{Items: one, Talks: []impl.Talk{putTalk, getTalk}}, []string{"", "1"}},
		{[]impl.Op{get, put}, impl.State{Items: one, Talks: []impl.Talk{putTalk, {Client: "b", Seq: 1}}}, []string{"", ""}},
		{[]impl.Op{put, get, put, get}, impl.State{Items: one, Talks: []impl.Talk{putTalk, getTalk}}, []string{"", "1", "", "1"}},
		{[]impl.Op{put, del, del}, impl.State{Talks: []impl.Talk{delTalk}}, []string{"", "1", "1"}},
		{[]impl.Op{put, del, put, get}, impl.State{Talks: []impl.Talk{delTalk, {Client: "b", Seq: 1}}}, []string{"", "1", "", ""}},
		{[]impl.Op{bad, put, bad, get, {}}, impl.State{Items: one, Talks: []impl.Talk{putTalk, getTalk}}, []string{"", "", "", "1", ""}},
	}
	for _, c := range cases {
		checkApplyAll(t, impl.State{}, c.list, c.want, c.replies)
	}
	for _, s := range validStates() {
		checkApplyAll(t, s, nil, s, nil)
		checkApplyAll(t, s, []impl.Op{bad, bad}, s, []string{"", ""})
	}
}

func TestApplyAllOfInvalidStates(t *testing.T) {
	for _, s := range invalidStates() {
		list := []impl.Op{opOf("a", 1, impl.OpPut, "a"), opOf("k000", 999, impl.OpDel, "k000"), opOf("a", 1, impl.OpPut, "a"), {}}
		checkApplyAll(t, s, nil, s, nil)
		checkApplyAll(t, s, list, s, []string{"", "", "", ""})
	}
}

// TestApplyAllOneByOne compares with the model, also for a list given twice.
func TestApplyAllOneByOne(t *testing.T) {
	for start := range uint32(20) {
		for _, s := range []impl.State{{}, stateOf(39, 19), stateOf(40, 20)} {
			list := someOps(60, start)
			list = append(list, list...)
			m := modelOf(s)
			var replies []string
			for _, x := range list {
				reply := ""
				if impl.OpOk(x) {
					reply, _ = m.apply(x)
				}
				replies = append(replies, reply)
			}
			checkApplyAll(t, s, list, m.state(), replies)
		}
	}
}

func checkNotRead(t *testing.T, s string) {
	t.Helper()
	if x, ok := impl.ReadOp(s); ok || x != (impl.Op{}) {
		t.Errorf("ReadOp(%.80q) = %#.200v, %v, want none", s, x, ok)
	}
}

func checkOpText(t *testing.T, x impl.Op, want string) {
	t.Helper()
	if got := impl.OpText(x); got != want {
		t.Errorf("OpText(%#.200v) = %.80q, want %.80q", x, got, want)
	}
	if want == "" {
		return
	}
	if got, ok := impl.ReadOp(want); !ok || got != x {
		t.Errorf("ReadOp(%.80q) = %#.200v, %v", want, got, ok)
	}
}

func TestOpText(t *testing.T) {
	long := "abcdefghijkl"
	cases := []struct {
		x    impl.Op
		want string
	}{
		{impl.Op{Client: "a", Seq: 1, Key: "k"}, "a 1 get k"},
		{impl.Op{Client: "a", Seq: 1, Kind: impl.OpDel, Key: "k"}, "a 1 del k"},
		{impl.Op{Client: "a", Seq: 1, Kind: impl.OpPut, Key: "k", Value: "v"}, "a 1 put k v"},
		{impl.Op{Client: "0", Seq: 120, Key: "9"}, "0 120 get 9"},
		{impl.Op{Client: "get", Seq: 7, Key: "put"}, "get 7 get put"},
		{impl.Op{Client: "1", Seq: 2, Kind: impl.OpPut, Key: "3", Value: "4"}, "1 2 put 3 4"},
		{impl.Op{Client: "a", Seq: 1, Kind: impl.OpPut, Key: "k", Value: "!\xff\x7f\u00e9\u00a0\x80"}, "a 1 put k !\xff\x7f\u00e9\u00a0\x80"},
		{impl.Op{Client: long, Seq: 1000000000, Kind: impl.OpPut, Key: long, Value: longest}, long + " 1000000000 put " + long + " " + longest},
	}
	for _, c := range cases {
		checkOpText(t, c.x, c.want)
	}
	for _, seq := range []int{1, 9, 10, 100, 2147483647, 999999998, 999999999, 1000000000} {
		for kind, word := range []string{"get", "put", "del"} {
			want := "c " + impl.DecText(seq) + " " + word + " k"
			if kind == impl.OpPut {
				want += " new"
			}
			if seq > 1000000000 {
				checkNotRead(t, want)
				want = ""
			}
			checkOpText(t, opOf("c", seq, kind, "k"), want)
		}
	}
}

func TestOpTextRejects(t *testing.T) {
	for _, x := range otherOps("c", 1, "k") {
		checkOpText(t, x, "")
	}
	for _, value := range []string{"", " ", "a b", " a", "a ", "a\n", "\na", "a\tb", "\x00", "a\x00", longest[1:] + " ", "\u00e9 ", "\xff\x1f"} {
		checkOpText(t, impl.Op{Client: "c", Seq: 1, Kind: impl.OpPut, Key: "k", Value: value}, "")
	}
}

// TestOpTextEveryByte tries every byte as, at the beginning of, inside and at
// the end of a value.
func TestOpTextEveryByte(t *testing.T) {
	for c := range 256 {
		b := string([]byte{byte(c)})
		for _, value := range []string{b, b + "a", "a" + b, "a" + b + "c", longest[1:] + b} {
			want := "c 1 put k " + value
			if c <= 32 {
				checkNotRead(t, want)
				want = ""
			}
			checkOpText(t, impl.Op{Client: "c", Seq: 1, Kind: impl.OpPut, Key: "k", Value: value}, want)
		}
	}
}

func TestReadOpRejects(t *testing.T) {
	invalid := []string{
		"", " ", "\n", "a", "a 1", "a 1 get", "a 1 put k", "a 1 del", "get", "a get k", "1 get k", "a 1 k",
		"a 1 get k x", "a 1 del k x", "a 1 put k x y", "a 1 get k x y", "a 1 get k  x", "a 1 put k ", "a 1 get k ", "a 1 del k ",
		" a 1 get k", "a  1 get k", "a 1  get k", "a 1 get  k", "a 1 put k  x", "a 1 put k x ", " a 1 put k x",
		"a\t1 get k", "a 1\tget k", "a 1 get\tk", "a 1 put k\tx", "a 1 get k\t", "a\n1 get k", "a 1 get k\n", "\na 1 get k", "a 1 put k x\n", "a 1 put k x\x00",
		"a 0 get k", "a 01 get k", "a 00 get k", "a +1 get k", "a -1 get k", "a -0 get k", "a 1.0 get k", "a 1e3 get k", "a 1_0 get k", "a 0x1 get k", "a one get k", "a \xd9\xa1 get k",
		"a 1000000001 get k", "a 01000000000 get k", "a 9999999999 get k", "a 4294967297 get k", "a 9223372036854775808 get k", "a 18446744073709551617 get k", "a " + strings.Repeat("9", 100000) + " get k",
		"a 1 GET k", "a 1 Get k", "a 1 PUT k x", "a 1 Del k", "a 1 got k", "a 1 ge k", "a 1 gett k", "a 1 0 k", "a 1 1 k x", "a 1 delete k", "a 1 getk", "a1 get k",
		"A 1 get k", "a 1 get K", "a-b 1 get k", "a 1 get k-1", "abcdefghijklm 1 get k", "a 1 get abcdefghijklm", "a 1 put abcdefghijklm x", "\u00e9 1 get k", "a 1 get \xff",
		"a 1 put k " + longest + "v", "a 1 put k " + strings.Repeat("v", 65536), strings.Repeat("a ", 100000), strings.Repeat(" ", 100000), strings.Repeat("a", 100000),
		"a 1 get k\na 1 get k", "a 1 get k a 1 get k",
	}
	for _, s := range invalid {
		checkNotRead(t, s)
	}
}

// opWritten is the form of an operation's text; the number may still be too
// great.
var opWritten = regexp.MustCompile(`\A([a-z0-9]{1,12}) ([1-9][0-9]{0,9}) (?:(get|del) ([a-z0-9]{1,12})|(put) ([a-z0-9]{1,12}) ([^\x00-\x20]{1,60}))\z`)

// checkReadOp compares ReadOp with opWritten for an ASCII text.
func checkReadOp(t *testing.T, s string) {
	t.Helper()
	parts := opWritten.FindStringSubmatch(s)
	if parts == nil || len(parts[2]) == 10 && parts[2] > "1000000000" {
		checkNotRead(t, s)
		return
	}
	x, ok := impl.ReadOp(s)
	kind := slices.Index([]string{"get", "put", "del"}, parts[3]+parts[5])
	if !ok || x.Client != parts[1] || impl.DecText(x.Seq) != parts[2] || x.Kind != kind || x.Key != parts[4]+parts[6] || x.Value != parts[7] {
		t.Errorf("ReadOp(%q) = %#v, %v", s, x, ok)
	}
}

// TestReadOpChangedTexts leaves out, doubles, replaces and inserts bytes of
// texts of operations.
func TestReadOpChangedTexts(t *testing.T) {
	for _, s := range []string{"a 1 get k", "ab 10 del k2", "a 1 put k x", "abcdefghijkl 1000000000 put abcdefghijkl x.y", "a 999999999 get k", "a 1 put k " + longest} {
		checkReadOp(t, s)
		for at := range len(s) + 1 {
			checkReadOp(t, s[:at])
			checkReadOp(t, s[at:])
			for c := range 128 {
				b := string([]byte{byte(c)})
				checkReadOp(t, s[:at]+b+s[at:])
				if at < len(s) {
					checkReadOp(t, s[:at]+b+s[at+1:])
				}
			}
			if at < len(s) {
				checkReadOp(t, s[:at]+s[at+1:])
				checkReadOp(t, s[:at]+s[at:at+1]+s[at:])
			}
		}
	}
}

// TestReadOpWords joins all rows of a few words with single and other blanks.
func TestReadOpWords(t *testing.T) {
	words := []string{"", "a", "1", "01", "get", "put", "del", "x!"}
	texts := []string{""}
	for range 5 {
		var next []string
		for _, s := range texts {
			for _, w := range words {
				next = append(next, s+" "+w)
			}
		}
		texts = next
		for _, s := range texts {
			checkReadOp(t, s)
			checkReadOp(t, s[1:])
		}
	}
}

// TestOpsAreRecovered reads back the texts of many operations.
func TestOpsAreRecovered(t *testing.T) {
	for _, x := range someOps(5000, 9) {
		s := impl.OpText(x)
		if want := impl.OpOk(x) && (x.Kind != impl.OpPut || x.Value != ""); (s != "") != want {
			t.Errorf("OpText(%#v) = %q", x, s)
		}
		if s != "" {
			checkOpText(t, x, s)
		}
	}
}

func FuzzReadOp(f *testing.F) {
	for _, s := range []string{"", "a 1 get k", "a 1 put k x.y", "b 1000000000 del k2", "a 01 get k", "a  1 get k", "a 1 put k\tx"} {
		f.Add(s)
	}
	f.Fuzz(func(t *testing.T, s string) {
		x, ok := impl.ReadOp(s)
		if !ok {
			checkNotRead(t, s)
			return
		}
		if !impl.OpOk(x) || impl.OpText(x) != s {
			t.Errorf("ReadOp(%q) = %#v", s, x)
		}
	})
}

// opCalls returns calls of Apply and ApplyAll with operations that are executed,
// repeated, outdated, refused and invalid.
func opCalls() map[string]func(impl.State) impl.State {
	calls := map[string]func(impl.State) impl.State{}
	list := []impl.Op{{}, opOf("NO", 1, impl.OpGet, "k000")}
	for _, client := range []string{"k000", "new"} {
		for _, seq := range []int{1, 7, 999} {
			for _, kind := range allKinds {
				list = append(list, opOf(client, seq, kind, "k002"), opOf(client, seq, kind, "k003"))
			}
		}
	}
	for i, x := range list {
		calls["Apply "+impl.DecText(i)] = func(s impl.State) impl.State {
			next, _, _ := impl.Apply(s, x)
			return next
		}
		calls["ApplyAll "+impl.DecText(i)] = func(s impl.State) impl.State {
			next, _ := impl.ApplyAll(s, list[i:])
			return next
		}
	}
	calls["ApplyAll of none"] = func(s impl.State) impl.State {
		next, _ := impl.ApplyAll(s, nil)
		return next
	}
	return calls
}

func TestOpsDoNotChangeStates(t *testing.T) { checkStatesStay(t, opCalls()) }

// TestApplyAllKeepsItsList expects the list and its spare capacity as they were,
// and replies that no other result shares.
func TestApplyAllKeepsItsList(t *testing.T) {
	states := invalidStates()
	maps.Copy(states, validStates())
	for what, s := range states {
		for _, n := range []int{0, 1, 2, 20} {
			full := someOps(n+3, 7)
			before := slices.Clone(full)
			list := full[:n]
			state, replies := impl.ApplyAll(s, list)
			_, others := impl.ApplyAll(s, list)
			wantState, want := copied(state), slices.Clone(others)
			spare := replies[:cap(replies)]
			for i := range spare {
				spare[i] = "written"
			}
			if !slices.Equal(full, before) || !slices.Equal(others, want) || !sameLists(state, wantState) {
				t.Fatalf("%.40q: ApplyAll of %d operations shares or changes memory", what, n)
			}
		}
	}
}
