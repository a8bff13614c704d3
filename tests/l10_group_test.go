package tests

import (
	"math"
	"runtime"
	"slices"
	"strconv"
	"strings"
	"sync"
	"testing"
	"time"

	"loop.example/g00772/impl"
)

// number returns the number written as s, which is a test's own text.
func number(s string) int {
	n, err := strconv.Atoi(s)
	if err != nil {
		panic("no number: " + s)
	}
	return n
}

// groupFrom returns the group in a notation like "1 2/0:1a x3/2:1a,3b": the
// Leader, and for every node x if it is not Up, Term, Commit and the lines.
func groupFrom(s string) impl.Group {
	words := strings.Fields(s)
	g := impl.Group{Leader: number(words[0])}
	for _, word := range words[1:] {
		rest, down := strings.CutPrefix(word, "x")
		head, log, _ := strings.Cut(rest, ":")
		term, commit, _ := strings.Cut(head, "/")
		g.Nodes = append(g.Nodes, impl.Node{Up: !down, Term: number(term), Log: linesFrom(log), Commit: number(commit)})
	}
	return g
}

// linesFrom returns the lines in a notation like "1a,3b".
func linesFrom(s string) []impl.Line {
	if s == "" {
		return nil
	}
	var list []impl.Line
	for _, word := range strings.Split(s, ",") {
		text := strings.TrimLeft(word, "-0123456789")
		list = append(list, impl.Line{Term: number(strings.TrimSuffix(word, text)), Text: text})
	}
	return list
}

// groupText returns g in the notation of groupFrom, with long texts shortened,
// to be printed.
func groupText(g impl.Group) string {
	text := strconv.Itoa(g.Leader)
	for _, n := range g.Nodes[:min(len(g.Nodes), 9)] {
		var lines []string
		for _, x := range n.Log {
			lines = append(lines, strconv.Itoa(x.Term)+x.Text[:min(len(x.Text), 12)])
		}
		text += " " + map[bool]string{true: "", false: "x"}[n.Up]
		text += strconv.Itoa(n.Term) + "/" + strconv.Itoa(n.Commit) + ":" + strings.Join(lines, ",")
	}
	return text
}

// sameGroups is the tests' own comparison of groups.
func sameGroups(a impl.Group, b impl.Group) bool {
	return a.Leader == b.Leader && slices.EqualFunc(a.Nodes, b.Nodes, sameNodes)
}

func sameNodes(a impl.Node, b impl.Node) bool {
	return a.Up == b.Up && a.Term == b.Term && a.Commit == b.Commit && slices.Equal(a.Log, b.Log)
}

// copiedGroup returns g in memory of its own.
func copiedGroup(g impl.Group) impl.Group {
	next := impl.Group{Leader: g.Leader}
	for _, n := range g.Nodes {
		n.Log = append([]impl.Line(nil), n.Log...)
		next.Nodes = append(next.Nodes, n)
	}
	return next
}

// groupOk is the tests' own GroupOk.
func groupOk(g impl.Group) bool {
	switch len(g.Nodes) {
	case 1, 2, 3, 4, 5, 6, 7:
	default:
		return false
	}
	if slices.ContainsFunc(g.Nodes, func(n impl.Node) bool { return !nodeOk(n) }) {
		return false
	}
	for i, n := range g.Nodes {
		if g.Leader == i {
			return n.Up
		}
	}
	return g.Leader == -1
}

func nodeOk(n impl.Node) bool {
	terms := []int{1}
	for _, x := range n.Log {
		terms = append(terms, x.Term)
		if len(x.Text) > 60 {
			return false
		}
	}
	if len(n.Log) > 0 && !slices.IsSorted(append(terms, n.Term)) {
		return false
	}
	return n.Term >= 0 && n.Term <= 1000 && len(n.Log) <= 40 && n.Commit >= 0 && n.Commit <= len(n.Log)
}

// isThere reports whether g is valid and has a node i.
func isThere(g impl.Group, i int) bool { return groupOk(g) && i >= 0 && i < len(g.Nodes) }

// rankOf returns the Term of the last line and the number of lines.
func rankOf(log []impl.Line) []int {
	rank := []int{0, len(log)}
	for _, x := range log {
		rank[0] = x.Term
	}
	return rank
}

// electOf is the tests' own Elect.
func electOf(g impl.Group, i int) (impl.Group, bool) {
	next := copiedGroup(g)
	if !isThere(g, i) || !g.Nodes[i].Up || g.Nodes[i].Term > 999 {
		return next, false
	}
	term, votes := g.Nodes[i].Term+1, 1
	next.Nodes[i].Term = term
	for k, other := range g.Nodes {
		if k == i || !other.Up || other.Term >= term {
			continue
		}
		next.Nodes[k].Term = term
		if slices.Compare(rankOf(other.Log), rankOf(g.Nodes[i].Log)) <= 0 {
			votes++
		}
	}
	if 2*votes > len(g.Nodes) {
		next.Leader = i
		return next, true
	}
	if g.Leader == i || g.Leader >= 0 && g.Nodes[g.Leader].Term < term {
		next.Leader = -1
	}
	return next, false
}

// proposeOf is the tests' own Propose.
func proposeOf(g impl.Group, text string) (impl.Group, bool) {
	next := copiedGroup(g)
	if !isThere(g, g.Leader) {
		return next, false
	}
	n := &next.Nodes[g.Leader]
	n.Log = append(n.Log, impl.Line{Term: n.Term, Text: text})
	if !groupOk(next) {
		return copiedGroup(g), false
	}
	return next, true
}

// sendOf is the tests' own Send.
func sendOf(g impl.Group, to int) (impl.Group, bool) {
	next := copiedGroup(g)
	if !isThere(g, g.Leader) || !isThere(g, to) || to == g.Leader || !g.Nodes[to].Up {
		return next, false
	}
	leader, n := g.Nodes[g.Leader], g.Nodes[to]
	if n.Term > leader.Term {
		next.Leader = -1
		return next, false
	}
	commit := slices.Max([]int{n.Commit, leader.Commit})
	if commit > len(leader.Log) {
		commit = len(leader.Log)
	}
	next.Nodes[to] = impl.Node{Up: true, Term: leader.Term, Log: slices.Clone(leader.Log), Commit: commit}
	return next, true
}

// advanceOf is the tests' own Advance.
func advanceOf(g impl.Group) impl.Group {
	next := copiedGroup(g)
	if !isThere(g, g.Leader) {
		return next
	}
	leader := g.Nodes[g.Leader]
	for at, line := range leader.Log {
		count := 0
		for _, n := range g.Nodes {
			if len(n.Log) > at && n.Log[at].Term == line.Term && n.Log[at].Text == line.Text {
				count++
			}
		}
		if at+1 > leader.Commit && line.Term == leader.Term && 2*count > len(g.Nodes) {
			next.Nodes[g.Leader].Commit = at + 1
		}
	}
	return next
}

// setUpOf is the tests' own SetUp.
func setUpOf(g impl.Group, i int, up bool) impl.Group {
	next := copiedGroup(g)
	if !isThere(g, i) {
		return next
	}
	next.Nodes[i].Up = up
	if next.Leader == i && !up {
		next.Leader = -1
	}
	return next
}

// committedOf is the tests' own Committed.
func committedOf(g impl.Group) []string {
	if !groupOk(g) {
		return nil
	}
	for commit := 40; commit > 0; commit-- {
		for _, n := range g.Nodes {
			if n.Commit == commit {
				return textsOf(n.Log[:commit])
			}
		}
	}
	return nil
}

func textsOf(log []impl.Line) []string {
	var texts []string
	for _, x := range log {
		texts = append(texts, x.Text)
	}
	return texts
}

// replayOf is the tests' own Replay.
func replayOf(g impl.Group) impl.State {
	m := modelOf(impl.State{})
	for _, text := range committedOf(g) {
		if x, ok := impl.ReadOp(text); ok {
			m.apply(x)
		}
	}
	return m.state()
}

func checkSameGroup(t *testing.T, what string, got impl.Group, want impl.Group) {
	t.Helper()
	if !sameGroups(got, want) {
		t.Errorf("%s: the group is %.300s, want %.300s", what, groupText(got), groupText(want))
	}
}

// checkGroupCall compares what a call returned for g with what it should.
func checkGroupCall(t *testing.T, what string, g impl.Group, got impl.Group, gotOk bool, want impl.Group, ok bool) {
	t.Helper()
	if gotOk != ok || !sameGroups(got, want) {
		t.Errorf("%s of %.300s: %.300s, %v, want %.300s, %v", what, groupText(g), groupText(got), gotOk, groupText(want), ok)
	}
}

func checkElect(t *testing.T, what string, g impl.Group, i int, want impl.Group, ok bool) {
	t.Helper()
	got, gotOk := impl.Elect(g, i)
	checkGroupCall(t, what+", Elect "+strconv.Itoa(i), g, got, gotOk, want, ok)
}

func checkPropose(t *testing.T, what string, g impl.Group, text string, want impl.Group, ok bool) {
	t.Helper()
	got, gotOk := impl.Propose(g, text)
	checkGroupCall(t, what+", Propose "+strconv.Quote(text[:min(len(text), 20)]), g, got, gotOk, want, ok)
}

func checkSend(t *testing.T, what string, g impl.Group, to int, want impl.Group, ok bool) {
	t.Helper()
	got, gotOk := impl.Send(g, to)
	checkGroupCall(t, what+", Send "+strconv.Itoa(to), g, got, gotOk, want, ok)
}

func checkAdvance(t *testing.T, what string, g impl.Group, want impl.Group) {
	t.Helper()
	checkGroupCall(t, what+", Advance", g, impl.Advance(g), true, want, true)
}

func checkSetUp(t *testing.T, what string, g impl.Group, i int, up bool, want impl.Group) {
	t.Helper()
	checkGroupCall(t, what+", SetUp "+strconv.Itoa(i)+" "+strconv.FormatBool(up), g, impl.SetUp(g, i, up), true, want, true)
}

func checkCommitted(t *testing.T, what string, g impl.Group, want []string) {
	t.Helper()
	if got := impl.Committed(g); !slices.Equal(got, want) {
		t.Errorf("%s: Committed of %.300s = %.300q, want %.300q", what, groupText(g), got, want)
	}
}

func checkReplay(t *testing.T, what string, g impl.Group, want impl.State) {
	t.Helper()
	checkState(t, what+", Replay of "+groupText(g), impl.Replay(g), want)
}

// checkGroupLikeModels calls every function of a group and compares the result
// with that of its model.
func checkGroupLikeModels(t *testing.T, what string, g impl.Group, texts ...string) {
	t.Helper()
	if got := impl.GroupOk(g); got != groupOk(g) {
		t.Errorf("%s: GroupOk(%.300s) = %v", what, groupText(g), got)
	}
	for i := -2; i < len(g.Nodes)+2; i++ {
		next, ok := electOf(g, i)
		checkElect(t, what, g, i, next, ok)
		next, ok = sendOf(g, i)
		checkSend(t, what, g, i, next, ok)
		checkSetUp(t, what, g, i, true, setUpOf(g, i, true))
		checkSetUp(t, what, g, i, false, setUpOf(g, i, false))
	}
	for _, text := range texts {
		next, ok := proposeOf(g, text)
		checkPropose(t, what, g, text, next, ok)
	}
	checkAdvance(t, what, g, advanceOf(g))
	checkCommitted(t, what, g, committedOf(g))
	checkReplay(t, what, g, replayOf(g))
}

// linesOf returns n lines of that Term with different texts.
func linesOf(term int, n int) []impl.Line {
	var list []impl.Line
	for i := range n {
		list = append(list, impl.Line{Term: term, Text: "t" + strconv.Itoa(i)})
	}
	return list
}

// groupOf returns a group of one node that is Up, and is the Leader.
func groupOf(n impl.Node) impl.Group {
	n.Up = true
	return impl.Group{Nodes: []impl.Node{n}}
}

// nodesOf returns a group of n nodes that are Up and as that one otherwise.
func nodesOf(n int, x impl.Node) impl.Group {
	g := impl.Group{Leader: -1}
	for range n {
		x.Up, x.Log = true, slices.Clone(x.Log)
		g.Nodes = append(g.Nodes, x)
	}
	return g
}

// someGroups returns valid groups up to the limits.
func someGroups() map[string]impl.Group {
	long := impl.Line{Term: 1000, Text: longest}
	groups := map[string]impl.Group{
		"no term":             groupOf(impl.Node{}),
		"the last term":       groupOf(impl.Node{Term: 1000, Log: linesOf(1000, 40), Commit: 40}),
		"a full log":          groupOf(impl.Node{Term: 5, Log: append(linesOf(1, 20), linesOf(5, 20)...), Commit: 39}),
		"one line less":       groupOf(impl.Node{Term: 5, Log: linesOf(5, 39)}),
		"longest texts":       groupOf(impl.Node{Term: 1000, Log: slices.Repeat([]impl.Line{long}, 40), Commit: 20}),
		"any bytes":           groupOf(impl.Node{Term: 1, Log: []impl.Line{{Term: 1, Text: ""}, {Term: 1, Text: "\x00\n\xff "}, {Term: 1}}, Commit: 3}),
		"seven full nodes":    nodesOf(7, impl.Node{Term: 1000, Log: linesOf(999, 40), Commit: 40}),
		"operations":          groupOf(impl.Node{Term: 2, Log: []impl.Line{{Term: 1, Text: "ann 1 put k v"}, {Term: 2, Text: "junk"}, {Term: 2, Text: "bob 1 get k"}}, Commit: 3}),
		"nobody is up":        groupFrom("-1 x0/0: x1/1:1a x1/0:1a"),
		"only the leader":     groupFrom("2 x0/0: x1/1:1a 1/0:1a"),
		"leader 0":            groupFrom("0 2/1:1a,2b,2c 2/0:1a,2b 1/0:1a"),
		"leader in a stale":   groupFrom("1 5/0: 3/1:1a,3b 5/0:1a,5x"),
		"older line":          groupFrom("0 3/0:1a,2b 3/0:1a,2b 3/0:1a,2b"),
		"older line in front": groupFrom("0 3/0:1a,3b 3/0:1a,3b 3/0:1a"),
		"commits are tied":    groupFrom("-1 1/1:1a,1b 1/2:1c,1d 1/2:1e,1f x1/2:1g,1h"),
		"the last is first":   groupFrom("-1 1/0:1a 1/1:1b x2/2:1c,2d"),
		"longer logs":         groupFrom("-1 1/0:1a 1/0:1a,1b 1/0:1a,1b,1c 1/0:"),
		"later logs":          groupFrom("-1 3/0:1a,1b,1c 3/0:2a 3/0:1a,3b 3/0:"),
		"terms of all kinds":  groupFrom("3 7/0: 8/0: 9/0: 8/0: x7/0: 999/0: 1000/0:"),
		"other lines":         groupFrom("0 2/0:1a,2b,2c 2/0:1a,2x,2c 2/0:1x,2b,2d 2/0:2a,2b,2c"),
	}
	for n := range 7 {
		groups["new "+strconv.Itoa(n+1)] = nodesOf(n+1, impl.Node{})
	}
	return groups
}

// invalidGroups returns groups that are not valid, each for one reason.
func invalidGroups() map[string]impl.Group {
	groups := map[string]impl.Group{
		"zero":                   {},
		"no nodes":               {Leader: -1},
		"eight nodes":            nodesOf(8, impl.Node{}),
		"eight and a leader":     {Nodes: nodesOf(8, impl.Node{}).Nodes, Leader: 3},
		"very many nodes":        nodesOf(300, impl.Node{Term: 1, Log: linesOf(1, 2), Commit: 1}),
		"leader is down":         groupFrom("0 x1/0:1a 1/0:1a 1/0:1a"),
		"last leader is down":    groupFrom("2 1/0: 1/0: x1/0:"),
		"leader behind the last": groupFrom("3 1/0: 1/0: 1/0:"),
		"too great at the end":   groupFrom("0 1/0: 1/0: 1001/0:"),
		"a bad line at the end":  groupFrom("-1 1/0: 1/0: 1/0:1a,2b"),
	}
	for _, leader := range []int{-2, -3, 1, 2, 7, 8, 255, -255, 1 << 32, -1 << 32, 1<<32 - 1, math.MinInt64, math.MinInt64 + 1, math.MaxInt64} {
		groups["leader "+strconv.Itoa(leader)] = impl.Group{Nodes: groupOf(impl.Node{}).Nodes, Leader: leader}
	}
	for name, n := range invalidNodes() {
		groups[name] = groupOf(n)
		groups[name+", nobody leads"] = impl.Group{Nodes: []impl.Node{n}, Leader: -1}
		first, last := nodesOf(3, impl.Node{Term: 1, Log: linesOf(1, 2)}), nodesOf(7, impl.Node{Term: 1, Log: linesOf(1, 2)})
		first.Nodes[0], last.Nodes[6] = n, n
		first.Leader, last.Leader = 1, 1
		groups[name+", first"], groups[name+", last"] = first, last
	}
	return groups
}

// invalidNodes returns nodes that are not valid, each for one reason.
func invalidNodes() map[string]impl.Node {
	nodes := map[string]impl.Node{
		"41 lines":               {Term: 1, Log: linesOf(1, 41)},
		"42 committed lines":     {Term: 1, Log: linesOf(1, 42), Commit: 42},
		"descending":             {Term: 2, Log: linesFrom("2a,1b")},
		"descending at the end":  {Term: 5, Log: linesFrom("1a,3b,5c,4d")},
		"descending in front":    {Term: 5, Log: linesFrom("2a,1b,3c,4d")},
		"term 0 in front":        {Term: 5, Log: linesFrom("0a,1b")},
		"term 0 alone":           {Term: 5, Log: linesFrom("0a")},
		"term 0 of both":         {Term: 0, Log: linesFrom("0a")},
		"term 0 at the end":      {Term: 5, Log: linesFrom("1a,0b")},
		"term below 0":           {Term: 5, Log: linesFrom("-1a")},
		"least term":             {Term: 5, Log: []impl.Line{{Term: math.MinInt64}}},
		"term above":             {Term: 5, Log: linesFrom("6a")},
		"term above at the end":  {Term: 5, Log: linesFrom("1a,5b,6c")},
		"term above in front":    {Term: 5, Log: linesFrom("6a,5b")},
		"greatest term":          {Term: 5, Log: []impl.Line{{Term: math.MaxInt64}}},
		"terms above the last":   {Term: 1001, Log: linesFrom("1001a")},
		"a line in no term":      {Term: 0, Log: linesFrom("1a")},
		"a line, a term below 0": {Term: -1, Log: linesFrom("-1a")},
		"a text too long":        {Term: 1, Log: []impl.Line{{Term: 1, Text: longest + "v"}}},
		"a last text too long":   {Term: 1, Log: []impl.Line{{Term: 1}, {Term: 1, Text: longest + "v"}}, Commit: 1},
		"a very long text":       {Term: 1, Log: []impl.Line{{Term: 1, Text: strings.Repeat("v", 65536)}, {Term: 1}}},
	}
	for _, term := range []int{-1, -2, 1001, 1002, -1000, 1 << 32, 1<<32 + 1, math.MinInt64, math.MinInt64 + 1, math.MaxInt64} {
		nodes["node of term "+strconv.Itoa(term)] = impl.Node{Term: term}
	}
	for _, commit := range []int{-1, -2, 3, 4, 41, 1 << 32, math.MinInt64, math.MaxInt64} {
		nodes["commit "+strconv.Itoa(commit)+" of two"] = impl.Node{Term: 1, Log: linesOf(1, 2), Commit: commit}
	}
	for _, commit := range []int{-1, 1, math.MinInt64, math.MaxInt64} {
		nodes["commit "+strconv.Itoa(commit)+" of none"] = impl.Node{Term: 1, Commit: commit}
	}
	return nodes
}

func TestGroupLimits(t *testing.T) {
	if impl.MaxNodes != 7 || impl.MaxTerm != 1000 || impl.MaxLog != 40 {
		t.Error("the limits of groups are not those of the document")
	}
}

func TestGroupOk(t *testing.T) {
	for what, g := range someGroups() {
		if !impl.GroupOk(g) || !groupOk(g) {
			t.Errorf("%s: GroupOk(%.300s) = false", what, groupText(g))
		}
	}
	for what, g := range invalidGroups() {
		if impl.GroupOk(g) || groupOk(g) {
			t.Errorf("%s: GroupOk(%.300s) = true", what, groupText(g))
		}
	}
}

// TestGroupNumbers meets and exceeds every limit, with nodes up and down.
func TestGroupNumbers(t *testing.T) {
	check := func(what string, n int, g impl.Group, want bool) {
		t.Helper()
		if got := impl.GroupOk(g); got != want {
			t.Errorf("GroupOk of %s %d = %v", what, n, got)
		}
	}
	for n := range 60 {
		check("nodes", n, nodesOf(n, impl.Node{}), n >= 1 && n <= 7)
		check("lines", n, groupOf(impl.Node{Term: 1, Log: linesOf(1, n)}), n <= 40)
		check("lines of a node that is down", n, impl.Group{Nodes: []impl.Node{{Term: 1, Log: linesOf(1, n)}}, Leader: -1}, n <= 40)
		check("committed lines", n, groupOf(impl.Node{Term: 1, Log: linesOf(1, 30), Commit: n}), n <= 30)
		check("committed lines of all", n, groupOf(impl.Node{Term: 1, Log: linesOf(1, n), Commit: n}), n <= 40)
		check("leader", n, impl.Group{Nodes: nodesOf(5, impl.Node{}).Nodes, Leader: n}, n < 5)
		check("line of term", n, groupOf(impl.Node{Term: 30, Log: linesOf(n, 1)}), n >= 1 && n <= 30)
		check("second line of term", n, groupOf(impl.Node{Term: 30, Log: append(linesOf(9, 1), linesOf(n, 1)...)}), n >= 9 && n <= 30)
	}
	for n := -5; n < 1100; n++ {
		check("term", n, groupOf(impl.Node{Term: n}), n >= 0 && n <= 1000)
		check("term of a node that is down", n, impl.Group{Nodes: []impl.Node{{Term: n}}, Leader: -1}, n >= 0 && n <= 1000)
	}
	for n := range 130 {
		text := strings.Repeat("\xff", n)
		check("bytes", n, groupOf(impl.Node{Term: 1, Log: []impl.Line{{Term: 1}, {Term: 1, Text: text}, {Term: 1}}}), n <= 60)
	}
}

// TestGroupLeaders has every Leader with every choice of nodes that are Up.
func TestGroupLeaders(t *testing.T) {
	for n := 1; n <= 7; n++ {
		for choice := range 1 << n {
			g := nodesOf(n, impl.Node{})
			for i := range n {
				g.Nodes[i].Up = choice>>i&1 == 1
			}
			for leader := -3; leader < n+3; leader++ {
				g.Leader = leader
				want := leader == -1 || leader >= 0 && leader < n && choice>>leader&1 == 1
				if got := impl.GroupOk(g); got != want {
					t.Errorf("GroupOk(%s) = %v", groupText(g), got)
				}
			}
		}
	}
}

func TestNewGroup(t *testing.T) {
	for n := 1; n <= 7; n++ {
		want := groupFrom("-1" + strings.Repeat(" 0/0:", n))
		got := impl.NewGroup(n)
		checkSameGroup(t, "NewGroup of "+strconv.Itoa(n), got, want)
		if !impl.GroupOk(got) {
			t.Errorf("NewGroup(%d) is invalid", n)
		}
	}
	for _, n := range []int{0, -1, -2, -7, 8, 9, 14, 256, 257, 1<<32 + 1, math.MinInt64, math.MinInt64 + 1, math.MaxInt64 - 1, math.MaxInt64} {
		checkSameGroup(t, "NewGroup of "+strconv.Itoa(n), impl.NewGroup(n), impl.Group{})
	}
}

// groupRow is a call with the index of a node: the group and what it returns, in
// the notation of groupFrom.
type groupRow struct {
	what  string
	given string
	node  int
	want  string
	ok    bool
}

func checkElections(t *testing.T, rows []groupRow) {
	t.Helper()
	for _, x := range rows {
		checkElect(t, x.what, groupFrom(x.given), x.node, groupFrom(x.want), x.ok)
	}
}

func TestElect(t *testing.T) {
	checkElections(t, []groupRow{
		{"the only node", "-1 0/0:", 0, "0 1/0:", true},
		{"all vote", "-1 0/0: 0/0: 0/0:", 1, "1 1/0: 1/0: 1/0:", true},
		{"in any term", "-1 41/0: 3/0: 17/0:", 0, "0 42/0: 42/0: 42/0:", true},
		{"just the last term", "-1 0/0: 999/0: 3/0:", 1, "1 1000/0: 1000/0: 1000/0:", true},
		{"no term is left", "-1 0/0: 1000/0: 3/0:", 1, "-1 0/0: 1000/0: 3/0:", false},
		{"no term is left to the leader", "1 0/0: 1000/0: 3/0:", 1, "1 0/0: 1000/0: 3/0:", false},
		{"a node that is down", "1 0/0: 0/0: x0/0:", 2, "1 0/0: 0/0: x0/0:", false},
		{"half of two", "-1 0/0: x0/0:", 0, "-1 1/0: x0/0:", false},
		{"half of four", "-1 0/0: x0/0: x0/0: 0/0:", 0, "-1 1/0: x0/0: x0/0: 1/0:", false},
		{"more than half of four", "-1 0/0: x0/0: 0/0: 0/0:", 0, "0 1/0: x0/0: 1/0: 1/0:", true},
		{"two of three", "-1 0/0: x0/0: 0/0:", 2, "2 1/0: x0/0: 1/0:", true},
		{"one of three", "-1 x0/0: x0/0: 0/0:", 2, "-1 x0/0: x0/0: 1/0:", false},
		{"a line more", "-1 1/0:1a 1/0:1a,1b", 0, "-1 2/0:1a 2/0:1a,1b", false},
		{"a line less", "-1 1/0:1a,1b 1/0:1a", 0, "0 2/0:1a,1b 2/0:1a", true},
		{"as many other lines", "-1 1/0:1a,1b 1/0:1x,1y", 0, "0 2/0:1a,1b 2/0:1x,1y", true},
		{"as many lines, an older one in front", "-1 2/0:2a,2b 2/0:1a,2b", 1, "1 3/0:2a,2b 3/0:1a,2b", true},
		{"more lines, an older one at the end", "-1 2/0:1a,1b,1c 2/0:2x", 1, "1 3/0:1a,1b,1c 3/0:2x", true},
		{"one line, a later one", "-1 2/0:1a,1b,1c 2/0:2x", 0, "-1 3/0:1a,1b,1c 3/0:2x", false},
		{"no lines against one", "-1 1/0: 1/0:1a", 0, "-1 2/0: 2/0:1a", false},
		{"one line against none", "-1 1/0: 1/0:1a", 1, "1 2/0: 2/0:1a", true},
		{"all in front are later", "-1 9/0:3a,4b 9/0:1a,5b", 1, "1 10/0:3a,4b 10/0:1a,5b", true},
		{"committed lines make no difference", "-1 1/2:1a,1b 1/0:1x,1y", 1, "1 2/2:1a,1b 2/0:1x,1y", true},
		{"the same term", "-1 1/0: 2/0:", 0, "-1 2/0: 2/0:", false},
		{"a greater term", "-1 1/0: 3/0:", 0, "-1 2/0: 3/0:", false},
		{"a lower term", "-1 1/0: 0/0:", 0, "0 2/0: 2/0:", true},
		{"the others have voted already", "-1 4/0: 5/0: 5/0: 4/0: 6/0:", 0, "-1 5/0: 5/0: 5/0: 5/0: 6/0:", false},
		{"one has not", "-1 4/0: 5/0: 4/0: 4/0: 6/0:", 0, "0 5/0: 5/0: 5/0: 5/0: 6/0:", true},
	})
}

// TestElectWithLeader has elections that are won and lost while there is a Leader.
func TestElectWithLeader(t *testing.T) {
	checkElections(t, []groupRow{
		{"another wins", "0 1/0: 1/0: 1/0:", 2, "2 2/0: 2/0: 2/0:", true},
		{"the leader wins again", "0 1/0: 1/0: 1/0:", 0, "0 2/0: 2/0: 2/0:", true},
		{"the leader loses, outdone", "0 1/0: 1/0:1a 1/0:1a", 0, "-1 2/0: 2/0:1a 2/0:1a", false},
		{"the leader loses, alone", "0 1/0: x1/0: x1/0:", 0, "-1 2/0: x1/0: x1/0:", false},
		{"the leader loses, in an older term", "0 1/0: 9/0: 9/0:", 0, "-1 2/0: 9/0: 9/0:", false},
		{"lost, the leader's term is less", "0 1/0:1a,1b 1/0: 1/0:1a", 1, "-1 2/0:1a,1b 2/0: 2/0:1a", false},
		{"lost, the leader's term is much less", "0 1/0:1a 7/0: 9/0:", 1, "-1 8/0:1a 8/0: 9/0:", false},
		{"lost, the leader votes", "1 x1/0: 1/0: 1/0: x1/0:", 2, "-1 x1/0: 2/0: 2/0: x1/0:", false},
		{"lost, the leader's term is the new one", "0 2/0: 1/0: 2/0:", 1, "0 2/0: 2/0: 2/0:", false},
		{"lost, the leader's term is greater", "0 3/0: 1/0: 3/0:", 1, "0 3/0: 2/0: 3/0:", false},
		{"won, the leader's term is the new one", "0 2/0: 1/0: 1/0:", 1, "1 2/0: 2/0: 2/0:", true},
		{"won, the leader's term is greater", "2 0/0: 0/0: 5/0:", 1, "1 1/0: 1/0: 5/0:", true},
		{"not held, a node that is down", "0 1/0: x0/0: 1/0:", 1, "0 1/0: x0/0: 1/0:", false},
		{"lost, the last is the leader", "2 0/0: x0/0: 0/0: x0/0:", 0, "-1 1/0: x0/0: 1/0: x0/0:", false},
		{"lost, the last is and remains the leader", "2 0/0: x0/0: 1/0: 1/0:1a", 0, "2 1/0: x0/0: 1/0: 1/0:1a", false},
	})
}

// voters returns nodes that vote for a candidate with Term 5 and lines of Terms
// 2 and 3, and nodes that do not.
func voters() (map[string]string, map[string]string) {
	willing := map[string]string{
		"a lower term":            "4/0:2a,3b",
		"no term":                 "0/0:",
		"the same term":           "5/0:2a,3b",
		"the same log":            "5/2:2a,3b",
		"a shorter log":           "5/0:3b",
		"no lines":                "5/0:",
		"older lines":             "5/1:1a,1b,1c,2d",
		"other lines":             "5/0:3x,3y",
		"as many of later terms":  "5/0:3x,3b",
		"many, but of older ones": "2/3:2a,2b,2c,2d",
	}
	others := map[string]string{
		"down":                     "x0/0:",
		"down with the same log":   "x5/0:2a,3b",
		"down in the new term":     "x6/0:",
		"the new term":             "6/0:",
		"the new term, same log":   "6/0:2a,3b",
		"a greater term":           "7/0:2a",
		"the last term":            "1000/0:",
		"a longer log":             "5/0:2a,3b,3c",
		"a longer log, other ones": "4/0:1a,1b,3c",
		"a later last line":        "5/0:4a",
		"a later and shorter one":  "5/0:5a",
		"later in a lower term":    "4/0:2a,4b",
	}
	return willing, others
}

// TestElectCountsVotes has every number of nodes and of votes, where the others
// do not vote for each reason that there is.
func TestElectCountsVotes(t *testing.T) {
	willing, others := voters()
	for n := 1; n <= 7; n++ {
		for votes := 1; votes <= n; votes++ {
			for what, voter := range willing {
				for why, other := range others {
					for _, at := range []int{0, votes - 1} {
						words := slices.Concat(slices.Repeat([]string{voter}, votes-1), slices.Repeat([]string{other}, n-votes))
						words = slices.Insert(words, at, "5/0:2a,3b")
						g := groupFrom("-1 " + strings.Join(words, " "))
						want, won := electOf(g, at)
						if won != (2*votes > n) {
							t.Fatalf("the model has %v for %s", won, groupText(g))
						}
						checkElect(t, what+", "+why, g, at, want, won)
					}
				}
			}
		}
	}
}

// TestElectAdopts has the Term of every other node after an election.
func TestElectAdopts(t *testing.T) {
	willing, others := voters()
	for what, word := range willing {
		got, ok := impl.Elect(groupFrom("-1 "+word+" 5/0:2a,3b x0/0:"), 1)
		if !ok || got.Nodes[0].Term != 6 {
			t.Errorf("%s: node 0 of %s, %v", what, groupText(got), ok)
		}
	}
	for what, word := range others {
		given := groupFrom("-1 " + word + " 5/0:2a,3b x0/0:")
		got, ok := impl.Elect(given, 1)
		want := given.Nodes[0].Term
		if given.Nodes[0].Up && want < 6 {
			want = 6
		}
		if ok || got.Nodes[0].Term != want || got.Nodes[1].Term != 6 {
			t.Errorf("%s: node 0 of %s, %v", what, groupText(got), ok)
		}
	}
}

func TestPropose(t *testing.T) {
	rows := []struct {
		what  string
		given string
		want  string
		ok    bool
	}{
		{"the first line", "0 1/0:", "0 1/0:1z", true},
		{"a line more", "1 1/0:1a 2/1:1a,2b 2/0:1x", "1 1/0:1a 2/1:1a,2b,2z 2/0:1x", true},
		{"the last node", "2 3/0: 3/0: 3/0:1a", "2 3/0: 3/0: 3/0:1a,3z", true},
		{"a later term", "0 9/0:1a", "0 9/0:1a,9z", true},
		{"the last term", "0 1000/0:", "0 1000/0:1000z", true},
		{"no leader", "-1 1/0: 1/0:", "-1 1/0: 1/0:", false},
		{"no term of the leader", "0 0/0: 1/0:", "0 0/0: 1/0:", false},
		{"a leader that is down", "0 x1/0: 1/0:", "0 x1/0: 1/0:", false},
		{"another node is invalid", "0 1/0: 1/1:", "0 1/0: 1/1:", false},
	}
	for _, x := range rows {
		checkPropose(t, x.what, groupFrom(x.given), "z", groupFrom(x.want), x.ok)
	}
}

// TestProposeLimits proposes texts of every length to logs of every length.
func TestProposeLimits(t *testing.T) {
	for lines := range 43 {
		for length := range 64 {
			g := impl.Group{Nodes: nodesOf(3, impl.Node{Term: 7, Log: linesOf(3, lines), Commit: lines / 2}).Nodes, Leader: 1}
			text := strings.Repeat("\x00", length)
			want := copiedGroup(g)
			ok := lines < 40 && length <= 60
			if ok {
				want.Nodes[1].Log = append(want.Nodes[1].Log, impl.Line{Term: 7, Text: text})
			}
			checkPropose(t, strconv.Itoa(lines)+" lines", g, text, want, ok)
		}
	}
	g := groupFrom("0 1/0:")
	for _, length := range []int{255, 256, 256 + 60, 65536, 1 << 20} {
		checkPropose(t, "a long text", g, strings.Repeat("v", length), g, false)
	}
}

// TestProposeUntilFull proposes lines until there is no room, in two terms.
func TestProposeUntilFull(t *testing.T) {
	g, _ := impl.Elect(impl.NewGroup(3), 2)
	var want []impl.Line
	for i := range 45 {
		if i == 17 {
			g, _ = impl.Elect(g, 2)
		}
		text := "line " + strconv.Itoa(i)
		next, ok := impl.Propose(g, text)
		if ok != (i < 40) {
			t.Errorf("Propose of line %d = %v", i, ok)
		}
		if ok {
			want = append(want, impl.Line{Term: 1 + i/17 - i/34, Text: text})
		}
		g = next
		if !slices.Equal(g.Nodes[2].Log, want) || len(g.Nodes[0].Log)+len(g.Nodes[1].Log) != 0 {
			t.Fatalf("after line %d the group is %.300s", i, groupText(g))
		}
	}
}

func TestSend(t *testing.T) {
	rows := []groupRow{
		{"nothing yet", "0 1/0: 0/0:", 1, "0 1/0: 1/0:", true},
		{"a shorter log", "0 2/0:1a,2b 1/0:1a", 1, "0 2/0:1a,2b 2/0:1a,2b", true},
		{"no log", "0 2/0:1a,2b 0/0:", 1, "0 2/0:1a,2b 2/0:1a,2b", true},
		{"a longer log", "0 2/0:1a 2/0:1a,1b,2c", 1, "0 2/0:1a 2/0:1a", true},
		{"the leader has no log", "0 2/0: 2/0:1a,1b,2c", 1, "0 2/0: 2/0:", true},
		{"a different log", "0 3/0:1a,3b 2/0:1x,2y", 1, "0 3/0:1a,3b 3/0:1a,3b", true},
		{"the same log", "0 3/1:1a,3b 3/1:1a,3b", 1, "0 3/1:1a,3b 3/1:1a,3b", true},
		{"a smaller commit", "0 1/2:1a,1b 1/1:1a,1b", 1, "0 1/2:1a,1b 1/2:1a,1b", true},
		{"a greater commit", "0 1/1:1a,1b,1c 1/3:1a,1b,1c", 1, "0 1/1:1a,1b,1c 1/3:1a,1b,1c", true},
		{"a commit above the lines", "0 1/0:1a 1/3:1a,1b,1c", 1, "0 1/0:1a 1/1:1a", true},
		{"a commit above all lines", "0 1/0: 1/3:1a,1b,1c", 1, "0 1/0: 1/0:", true},
		{"the same term", "0 4/0:1a 4/0:", 1, "0 4/0:1a 4/0:1a", true},
		{"a term less by one", "0 4/0:1a 3/0:", 1, "0 4/0:1a 4/0:1a", true},
		{"a term greater by one", "0 4/0:1a 5/1:1b", 1, "-1 4/0:1a 5/1:1b", false},
		{"a much greater term", "0 4/0:1a 1000/0:", 1, "-1 4/0:1a 1000/0:", false},
		{"to the leader", "0 4/0:1a 4/0:", 0, "0 4/0:1a 4/0:", false},
		{"to a node that is down", "0 4/0:1a x4/0:", 1, "0 4/0:1a x4/0:", false},
		{"down, with a greater term", "0 4/0:1a x9/0:", 1, "0 4/0:1a x9/0:", false},
		{"no leader", "-1 4/0:1a 4/0:", 1, "-1 4/0:1a 4/0:", false},
		{"no leader, a greater term", "-1 4/0:1a 5/0:", 1, "-1 4/0:1a 5/0:", false},
		{"one of many", "2 0/0: 1/0:1x 2/1:1a,2b 2/0:1a x2/0:", 1, "2 0/0: 2/1:1a,2b 2/1:1a,2b 2/0:1a x2/0:", true},
		{"the last of many", "0 2/1:1a,2b 0/0: 0/0: 2/0:1a", 3, "0 2/1:1a,2b 0/0: 0/0: 2/1:1a,2b", true},
		{"the first of many", "3 1/0: 0/0: 0/0: 2/0:1a", 0, "3 2/0:1a 0/0: 0/0: 2/0:1a", true},
		{"in no term", "0 0/0: 0/0:", 1, "0 0/0: 0/0:", true},
	}
	for _, x := range rows {
		checkSend(t, x.what, groupFrom(x.given), x.node, groupFrom(x.want), x.ok)
	}
}

// TestSendCommits has every Commit of both nodes with every number of lines.
func TestSendCommits(t *testing.T) {
	for lines := range 6 {
		for others := range 6 {
			for commit := range lines + 1 {
				for other := range others + 1 {
					g := impl.Group{Nodes: []impl.Node{
						{Up: true, Term: 3, Log: linesOf(1, others), Commit: other},
						{Up: true, Term: 3, Log: linesOf(2, lines), Commit: commit},
					}, Leader: 1}
					want := copiedGroup(g)
					want.Nodes[0] = impl.Node{Up: true, Term: 3, Log: linesOf(2, lines), Commit: min(max(commit, other), lines)}
					checkSend(t, "commits", g, 0, want, true)
				}
			}
		}
	}
	full := groupFrom("0 5/0: 0/0:")
	full.Nodes[0].Log = append(linesOf(1, 39), impl.Line{Term: 5, Text: longest})
	want := copiedGroup(full)
	want.Nodes[1] = impl.Node{Up: true, Term: 5, Log: slices.Clone(full.Nodes[0].Log)}
	checkSend(t, "a full log", full, 1, want, true)
}

func TestAdvance(t *testing.T) {
	rows := []struct {
		what  string
		given string
		want  string
	}{
		{"nothing", "0 1/0:", "0 1/0:"},
		{"the only node", "0 1/0:1a,1b", "0 1/2:1a,1b"},
		{"no leader", "-1 1/0:1a,1b", "-1 1/0:1a,1b"},
		{"one of two", "0 1/0:1a 1/0:", "0 1/0:1a 1/0:"},
		{"both of two", "0 1/0:1a 1/0:1a", "0 1/1:1a 1/0:1a"},
		{"one of three", "1 1/0: 1/0:1a 1/0:", "1 1/0: 1/0:1a 1/0:"},
		{"two of three", "1 1/0: 1/0:1a 1/0:1a", "1 1/0: 1/1:1a 1/0:1a"},
		{"two of four", "1 1/0: 1/0:1a 1/0:1a 1/0:", "1 1/0: 1/0:1a 1/0:1a 1/0:"},
		{"three of four", "1 1/0:1a 1/0:1a 1/0:1a 1/0:", "1 1/0:1a 1/1:1a 1/0:1a 1/0:"},
		{"a node that is down", "1 1/0: 1/0:1a x1/0:1a", "1 1/0: 1/1:1a x1/0:1a"},
		{"all others are down", "1 x1/0:1a 1/0:1a x1/0:", "1 x1/0:1a 1/1:1a x1/0:"},
		{"an older line", "0 2/0:1a 2/0:1a 2/0:1a", "0 2/0:1a 2/0:1a 2/0:1a"},
		{"an older line of all but the last", "0 2/0:1a,2b 2/0:1a 2/0:1a", "0 2/0:1a,2b 2/0:1a 2/0:1a"},
		{"a later line too", "0 2/0:1a,2b 2/0:1a,2b 2/0:1a", "0 2/2:1a,2b 2/0:1a,2b 2/0:1a"},
		{"a later line without the older one", "0 2/0:1a,2b 2/0:1x,2b 2/0:", "0 2/2:1a,2b 2/0:1x,2b 2/0:"},
		{"an older line behind a committed one", "0 3/1:1a,2b 3/1:1a,2b", "0 3/1:1a,2b 3/1:1a,2b"},
		{"a part of the lines", "0 1/0:1a,1b,1c 1/0:1a,1b 1/0:1a", "0 1/2:1a,1b,1c 1/0:1a,1b 1/0:1a"},
		{"the shortest of five", "0 1/0:1a,1b,1c 1/0:1a,1b,1c 1/0:1a,1b 1/0:1a 1/0:", "0 1/2:1a,1b,1c 1/0:1a,1b,1c 1/0:1a,1b 1/0:1a 1/0:"},
		{"another text", "0 1/0:1a 1/0:1b 1/0:1c", "0 1/0:1a 1/0:1b 1/0:1c"},
		{"another term", "0 2/0:2a 2/0:1a 2/0:1a", "0 2/0:2a 2/0:1a 2/0:1a"},
		{"another position", "0 1/0:1a,1b 1/0:1b 1/0:1b", "0 1/0:1a,1b 1/0:1b 1/0:1b"},
		{"a gap between", "0 1/0:1a,1b,1c 1/0:1a,1x,1c 1/0:", "0 1/3:1a,1b,1c 1/0:1a,1x,1c 1/0:"},
		{"the greatest is not agreed upon", "0 1/0:1a,1b,1c 1/0:1a,1b,1x 1/0:", "0 1/2:1a,1b,1c 1/0:1a,1b,1x 1/0:"},
		{"committed already", "0 1/1:1a 1/0:1a", "0 1/1:1a 1/0:1a"},
		{"committed further than agreed upon", "0 1/2:1a,1b,1c 1/0:1a 1/0:1a", "0 1/2:1a,1b,1c 1/0:1a 1/0:1a"},
		{"the commits of the others", "0 1/0:1a 1/1:1a 1/1:1a", "0 1/1:1a 1/1:1a 1/1:1a"},
		{"more lines of the others", "0 1/0:1a 1/0:1a,1b 1/0:1a,1b", "0 1/1:1a 1/0:1a,1b 1/0:1a,1b"},
		{"terms of the others", "0 2/0:2a 7/0:2a 9/0:", "0 2/1:2a 7/0:2a 9/0:"},
		{"the others agree on more", "2 1/0:1a 1/0:1a 1/0:", "2 1/0:1a 1/0:1a 1/0:"},
	}
	for _, x := range rows {
		checkAdvance(t, x.what, groupFrom(x.given), groupFrom(x.want))
	}
}

// TestAdvanceCounts has every number of nodes and every choice of those that have
// the line, all the others up or down.
func TestAdvanceCounts(t *testing.T) {
	for n := 1; n <= 7; n++ {
		for choice := range 1 << n {
			for _, down := range []bool{false, true} {
				g := nodesOf(n, impl.Node{Term: 4, Log: linesFrom("1a,4b,4c"), Commit: 1})
				count := 0
				for i := range n {
					if choice>>i&1 == 1 {
						g.Nodes[i].Log = append(g.Nodes[i].Log, impl.Line{Term: 4, Text: "d"})
						count++
					}
				}
				leader := slices.IndexFunc(g.Nodes, func(x impl.Node) bool { return len(x.Log) == 4 })
				for i := range n {
					g.Nodes[i].Up = !down || i == leader
				}
				g.Leader = leader
				want := copiedGroup(g)
				if leader >= 0 {
					want.Nodes[leader].Commit = 3
				}
				if 2*count > n {
					want.Nodes[leader].Commit = 4
				}
				checkAdvance(t, "counted", g, want)
			}
		}
	}
}

// TestAdvanceToEveryLine has logs of every length, agreed upon up to every line,
// with every line as the first of the Leader's term.
func TestAdvanceToEveryLine(t *testing.T) {
	for lines := range 41 {
		for agreed := range lines + 1 {
			for _, older := range []int{0, 1, agreed - 1, agreed, agreed + 1, lines} {
				if older < 0 || older > lines {
					continue
				}
				log := append(linesOf(1, older), linesOf(2, lines-older)...)
				for _, commit := range []int{0, agreed / 2, max(agreed-1, 0), agreed, lines} {
					g := impl.Group{Nodes: []impl.Node{
						{Up: true, Term: 2, Log: slices.Clone(log[:agreed])},
						{Up: true, Term: 2, Log: slices.Clone(log), Commit: commit},
						{Up: true, Term: 2},
					}, Leader: 1}
					want := copiedGroup(g)
					if agreed > older && agreed > commit {
						want.Nodes[1].Commit = agreed
					}
					checkAdvance(t, strconv.Itoa(agreed)+" of "+strconv.Itoa(lines)+" lines", g, want)
				}
			}
		}
	}
}

func TestSetUp(t *testing.T) {
	rows := []struct {
		what  string
		given string
		i     int
		up    bool
		want  string
	}{
		{"the leader down", "0 1/1:1a 1/0:", 0, false, "-1 x1/1:1a 1/0:"},
		{"the last leader down", "2 1/0: 1/0: 1/0:", 2, false, "-1 1/0: 1/0: x1/0:"},
		{"the leader up", "0 1/1:1a 1/0:", 0, true, "0 1/1:1a 1/0:"},
		{"another down", "0 1/1:1a 1/0:", 1, false, "0 1/1:1a x1/0:"},
		{"another up", "0 1/1:1a x1/0:", 1, true, "0 1/1:1a 1/0:"},
		{"another down again", "0 1/1:1a x1/0:", 1, false, "0 1/1:1a x1/0:"},
		{"another up again", "0 1/1:1a 1/0:", 1, true, "0 1/1:1a 1/0:"},
		{"down without a leader", "-1 1/1:1a 1/0:", 0, false, "-1 x1/1:1a 1/0:"},
		{"up without a leader", "-1 x1/1:1a x1/0:", 0, true, "-1 1/1:1a x1/0:"},
		{"the only one down", "0 1/1:1a", 0, false, "-1 x1/1:1a"},
		{"no such node, down", "0 1/1:1a", 1, false, "0 1/1:1a"},
		{"no such node, up", "0 1/1:1a", 1, true, "0 1/1:1a"},
		{"node -1 without a leader", "-1 1/1:1a", -1, false, "-1 1/1:1a"},
		{"an invalid leader up", "0 x1/1:1a", 0, true, "0 x1/1:1a"},
		{"an invalid leader down", "0 x1/1:1a", 0, false, "0 x1/1:1a"},
	}
	for _, x := range rows {
		checkSetUp(t, x.what, groupFrom(x.given), x.i, x.up, groupFrom(x.want))
	}
}

// TestNoSuchNode has indexes at which no group has a node.
func TestNoSuchNode(t *testing.T) {
	for what, g := range someGroups() {
		n := len(g.Nodes)
		for _, i := range append(farIndexes, n, n+1, n+7, -n, -n-1, 256+n, 1<<32, 1<<32+n-1, -1<<32) {
			checkElect(t, what, g, i, g, false)
			checkSend(t, what, g, i, g, false)
			checkSetUp(t, what, g, i, true, g)
			checkSetUp(t, what, g, i, false, g)
		}
	}
}

func TestCommitted(t *testing.T) {
	rows := []struct {
		what  string
		given string
		want  []string
	}{
		{"no line", "-1 1/0:1a,1b 1/0:1c", nil},
		{"the first", "-1 1/2:1a,1b,1c 1/1:1x,1y", []string{"a", "b"}},
		{"the last", "-1 1/0:1a,1b,1c 1/1:1x,1y", []string{"x"}},
		{"one between", "-1 1/1:1a,1b,1c x1/2:1x,1y 1/0:", []string{"x", "y"}},
		{"a tie", "-1 1/0:1a,1b 1/1:1x,1y 1/1:1u,1v", []string{"x"}},
		{"a tie of all", "1 1/2:1a,1b 1/2:1x,1y 1/2:1u,1v", []string{"a", "b"}},
		{"a tie behind less", "1 1/1:1a,1b 1/2:1x,1y 1/2:1u,1v", []string{"x", "y"}},
		{"not the leader's", "0 1/0:1a,1b 1/1:1x", []string{"x"}},
		{"the same text twice", "0 2/3:1a,1a,2a 1/1:1x", []string{"a", "a", "a"}},
		{"empty texts", "0 2/2:1,2 1/1:1x", []string{"", ""}},
		{"an invalid group", "2 1/2:1a,1b 1/1:1x", nil},
		{"an invalid node", "0 1/2:1a,1b 1/2:1x", nil},
	}
	for _, x := range rows {
		checkCommitted(t, x.what, groupFrom(x.given), x.want)
	}
	full := groupOf(impl.Node{Term: 1, Log: linesOf(1, 40), Commit: 40})
	checkCommitted(t, "a full log", full, textsOf(full.Nodes[0].Log))
}

// TestReplay replays the first lines of a log, of every number.
func TestReplay(t *testing.T) {
	texts := []string{"junk", "ann 1 put k v", "", "ann 1 put k v", "ann 1 put k w", "bob 5 get k", "bob 4 put k old", "ann 02 del k", " ann 2 del k", "ann 2 del k ", "ANN 2 del k", "ann 2 del k", "ann 2 put k back", "bob 6 put k2 " + longest[:40], "bob 7 put k3"}
	ann := func(seq int, reply string) impl.Talk { return impl.Talk{Client: "ann", Seq: seq, Reply: reply} }
	bob := func(seq int, reply string) impl.Talk { return impl.Talk{Client: "bob", Seq: seq, Reply: reply} }
	k := []impl.Item{{Key: "k", Value: "v"}}
	k2 := []impl.Item{{Key: "k2", Value: longest[:40]}}
	put := impl.State{Items: k, Talks: []impl.Talk{ann(1, "")}}
	got := impl.State{Items: k, Talks: []impl.Talk{ann(1, ""), bob(5, "v")}}
	deleted := impl.State{Talks: []impl.Talk{ann(2, "v"), bob(5, "v")}}
	last := impl.State{Items: k2, Talks: []impl.Talk{ann(2, "v"), bob(6, "")}}
	states := []impl.State{{}, {}, put, put, put, put, got, got, got, got, got, got, deleted, deleted, last, last}
	log := make([]impl.Line, len(texts))
	for i, text := range texts {
		log[i] = impl.Line{Term: 1, Text: text}
	}
	for commit, want := range states {
		g := impl.Group{Nodes: []impl.Node{{Term: 1, Log: linesFrom("1x")}, {Up: true, Term: 1, Log: log, Commit: commit}}, Leader: -1}
		checkReplay(t, strconv.Itoa(commit)+" lines", g, want)
		g.Leader = 2
		checkReplay(t, "an invalid group", g, impl.State{})
	}
}

// TestReplayRefused replays operations that a full state refuses.
func TestReplayRefused(t *testing.T) {
	var log []impl.Line
	for i := range 25 {
		log = append(log, impl.Line{Term: 1, Text: "c" + strconv.Itoa(10+i) + " 1 put k" + strconv.Itoa(i) + " v"})
	}
	g := groupOf(impl.Node{Term: 1, Log: append(log, impl.Line{Term: 1, Text: "c10 2 del k1"}), Commit: 26})
	s := impl.Replay(g)
	if len(s.Items) != 19 || len(s.Talks) != 20 || impl.ItemAt(s, "k1") >= 0 {
		t.Errorf("the state has %d items and %d talks", len(s.Items), len(s.Talks))
	}
	checkReplay(t, "refused", g, replayOf(g))
}

// TestInvalidGroups expects every invalid group back as it was, in every field.
func TestInvalidGroups(t *testing.T) {
	for what, g := range invalidGroups() {
		want := copiedGroup(g)
		for i := -1; i <= min(len(g.Nodes), 9); i++ {
			checkElect(t, what, g, i, want, false)
			checkSend(t, what, g, i, want, false)
			checkSetUp(t, what, g, i, true, want)
			checkSetUp(t, what, g, i, false, want)
		}
		for _, text := range []string{"", "ann 1 put k v", longest, longest + "v"} {
			checkPropose(t, what, g, text, want, false)
		}
		checkAdvance(t, what, g, want)
		checkCommitted(t, what, g, nil)
		checkReplay(t, what, g, impl.State{})
	}
}

// TestGroupsLikeModels calls all functions on all groups, valid and invalid ones.
func TestGroupsLikeModels(t *testing.T) {
	for _, groups := range []map[string]impl.Group{someGroups(), invalidGroups()} {
		for what, g := range groups {
			checkGroupLikeModels(t, what, g, "", "ann 2 del k", longest, longest+"v")
		}
	}
}

// TestEverySmallGroup calls all functions on all groups of up to three nodes of a
// few kinds, with every Leader.
func TestEverySmallGroup(t *testing.T) {
	kinds := []string{"0/0:", "1/0:", "x1/1:1a", "1/1:1a", "2/0:1a", "2/0:1b,2a", "2/1:1a,2a", "2/2:1a,1b", "x2/0:2a", "3/1:2a", "1/2:1a,1b"}
	var lists []string
	for _, a := range kinds {
		lists = append(lists, a)
		for _, b := range kinds {
			lists = append(lists, a+" "+b)
			for _, c := range kinds {
				lists = append(lists, a+" "+b+" "+c)
			}
		}
	}
	for _, list := range lists {
		for leader := -1; leader < 3; leader++ {
			checkGroupLikeModels(t, "small", groupFrom(strconv.Itoa(leader)+" "+list), "z")
		}
	}
}

// choices takes numbers out of bytes without an apparent rule.
type choices struct {
	bytes string
	at    int
}

// below returns a number in 0..n-1, and 0 behind the end of the bytes.
func (c *choices) below(n int) int {
	if c.at >= len(c.bytes) {
		return 0
	}
	c.at++
	return int(c.bytes[c.at-1]) % n
}

// group returns a group that often is valid.
func (c *choices) group() impl.Group {
	nodes := 1 + c.below(8)
	g := impl.Group{Leader: c.below(nodes+2) - 1}
	terms := 1 + c.below(4)
	for range nodes {
		n := impl.Node{Up: c.below(4) > 0, Term: c.below(terms + 1)}
		term := 1
		for range c.below(5) {
			term += c.below(3) / 2
			n.Log = append(n.Log, impl.Line{Term: min(term, max(n.Term, 1)), Text: []string{"", "a", "b", "ann 1 put k v", "ann 2 del k"}[c.below(5)]})
		}
		n.Commit = min(c.below(6), len(n.Log))
		if n.Term == 0 && c.below(9) > 0 {
			n.Log, n.Commit = nil, 0
		}
		g.Nodes = append(g.Nodes, n)
	}
	if g.Leader >= 0 && g.Leader < nodes && c.below(9) > 0 {
		g.Nodes[g.Leader].Up = true
	}
	return g
}

// TestRandomGroups calls all functions on groups without an apparent rule.
func TestRandomGroups(t *testing.T) {
	valid, led := 0, 0
	for start := range uint32(4000) {
		g := (&choices{bytes: someBytes(200, 3000+start)}).group()
		checkGroupLikeModels(t, "random", g, "a")
		if groupOk(g) {
			valid++
			led += min(g.Leader+1, 1)
		}
	}
	if valid < 2000 || led < 1000 {
		t.Errorf("%d groups are valid, %d of them have a leader", valid, led)
	}
}

// step changes g by a function that c chooses, as its model does, and returns the
// changed group and whether an election was won.
func step(t *testing.T, c *choices, g impl.Group) (impl.Group, bool) {
	t.Helper()
	i := c.below(len(g.Nodes))
	switch c.below(9) {
	case 0:
		want, won := electOf(g, i)
		checkElect(t, "history", g, i, want, won)
		return want, won
	case 1, 2:
		text := "ann " + strconv.Itoa(1+c.below(200)) + " put k v" + strconv.Itoa(c.below(100))
		want, ok := proposeOf(g, text)
		checkPropose(t, "history", g, text, want, ok)
		return want, false
	case 3, 4, 5:
		want, ok := sendOf(g, i)
		checkSend(t, "history", g, i, want, ok)
		return want, false
	case 6:
		up := c.below(3) > 0
		checkSetUp(t, "history", g, i, up, setUpOf(g, i, up))
		return setUpOf(g, i, up), false
	}
	checkAdvance(t, "history", g, advanceOf(g))
	return advanceOf(g), false
}

// TestCommittedLinesRemain checks promise 10 for long histories of every number
// of nodes: what is committed stays, whoever leads, and every term has at most
// one leader.
func TestCommittedLinesRemain(t *testing.T) {
	terms, lines := 0, 0
	for start := range uint32(300) {
		g := impl.NewGroup(1 + int(start)%7)
		c := &choices{bytes: someBytes(2000, 50000+start)}
		leaders := map[int]int{}
		var before []string
		for c.at < len(c.bytes) {
			next, won := step(t, c, g)
			if !impl.GroupOk(next) {
				t.Fatalf("start %d: %.300s becomes invalid: %.300s", start, groupText(g), groupText(next))
			}
			if g = next; won {
				term := g.Nodes[g.Leader].Term
				if old, led := leaders[term]; led {
					t.Fatalf("start %d: term %d has the leaders %d and %d", start, term, old, g.Leader)
				}
				leaders[term] = g.Leader
				if !prefixed(textsOf(g.Nodes[g.Leader].Log), before) {
					t.Fatalf("start %d: the new leader lacks %q: %.300s", start, before, groupText(g))
				}
			}
			now := impl.Committed(g)
			if !prefixed(now, before) {
				t.Fatalf("start %d: %q becomes %q", start, before, now)
			}
			before = now
		}
		terms, lines = terms+len(leaders), lines+len(before)
		checkReplay(t, "history", g, replayOf(g))
	}
	if terms < 3000 || lines < 3000 {
		t.Errorf("the histories have %d leaders and %d committed lines", terms, lines)
	}
}

func prefixed(list []string, front []string) bool {
	return len(list) >= len(front) && slices.Equal(list[:len(front)], front)
}

// TestOlderLineIsLost has the history in which a line of an older term is on most
// nodes and is lost all the same, so that it was right not to commit it.
func TestOlderLineIsLost(t *testing.T) {
	g, _ := impl.Elect(impl.NewGroup(5), 0)
	g, _ = impl.Propose(g, "older")
	g, _ = impl.Send(g, 1)
	g = impl.SetUp(impl.SetUp(g, 0, false), 1, false)
	for range 2 {
		g, _ = impl.Elect(g, 4)
	}
	g, _ = impl.Propose(g, "later")
	g = impl.SetUp(impl.SetUp(impl.SetUp(g, 4, false), 0, true), 1, true)
	for range 3 {
		g, _ = impl.Elect(g, 0)
	}
	g, _ = impl.Send(g, 2)
	checkSameGroup(t, "on most nodes", g, groupFrom("0 4/0:1older 4/0:1older 4/0:1older 4/0: x3/0:3later"))
	checkAdvance(t, "on most nodes", g, g)
	g = impl.SetUp(impl.SetUp(g, 0, false), 4, true)
	for range 2 {
		g, _ = impl.Elect(g, 4)
	}
	checkSameGroup(t, "another leader", g, groupFrom("4 x4/0:1older 5/0:1older 5/0:1older 5/0: 5/0:3later"))
	for i := range 4 {
		g, _ = impl.Send(g, i)
	}
	g, _ = impl.Propose(g, "last")
	g, _ = impl.Send(g, 1)
	g, _ = impl.Send(g, 2)
	checkCommitted(t, "at the end", impl.Advance(g), []string{"later", "last"})
}

// roomyGroup returns g in memory of its own, with spare capacity behind all lists,
// filled with what must stay.
func roomyGroup(g impl.Group) impl.Group {
	spare := impl.Line{Term: 77, Text: "spare"}
	next := impl.Group{Leader: g.Leader}
	for i := range len(g.Nodes) + 2 {
		n := impl.Node{Term: 77, Commit: 77}
		if i < len(g.Nodes) {
			n = g.Nodes[i]
		}
		n.Log = append(slices.Clone(n.Log), spare, spare, spare)[:len(n.Log)]
		next.Nodes = append(next.Nodes, n)
	}
	next.Nodes = next.Nodes[:len(g.Nodes)]
	return next
}

// wholeNodes returns the nodes of g and those behind them, with the lines of each
// as long as their capacity, in the memory of g.
func wholeNodes(g impl.Group) []impl.Node {
	var list []impl.Node
	for _, n := range g.Nodes[:cap(g.Nodes)] {
		n.Log = n.Log[:cap(n.Log)]
		list = append(list, n)
	}
	return list
}

// overwriteGroup changes all memory of g, also behind its lists.
func overwriteGroup(g impl.Group) {
	for _, n := range wholeNodes(g) {
		overwriteLines(n.Log)
	}
	nodes := g.Nodes[:cap(g.Nodes)]
	for i := range nodes {
		nodes[i] = impl.Node{Up: !nodes[i].Up, Term: 555, Commit: 555}
	}
}

func overwriteLines(log []impl.Line) {
	for i := range log {
		log[i] = impl.Line{Term: 555, Text: "overwritten"}
	}
}

// groupCalls returns a call of every function that returns a group.
func groupCalls(nodes int) map[string]func(impl.Group) impl.Group {
	calls := map[string]func(impl.Group) impl.Group{"Advance": impl.Advance}
	for i := -1; i <= min(nodes, 8); i++ {
		name := " " + strconv.Itoa(i)
		calls["Elect"+name] = func(g impl.Group) impl.Group {
			next, _ := impl.Elect(g, i)
			return next
		}
		calls["Send"+name] = func(g impl.Group) impl.Group {
			next, _ := impl.Send(g, i)
			return next
		}
		calls["SetUp"+name+" up"] = func(g impl.Group) impl.Group { return impl.SetUp(g, i, true) }
		calls["SetUp"+name+" down"] = func(g impl.Group) impl.Group { return impl.SetUp(g, i, false) }
	}
	for _, text := range []string{"text", longest + "v"} {
		calls["Propose "+text] = func(g impl.Group) impl.Group {
			next, _ := impl.Propose(g, text)
			return next
		}
	}
	return calls
}

// TestGroupsStay checks promise 15: an argument stays as it was, with its spare
// capacity, also when the result is overwritten, and a result stays when the
// argument or another result is.
func TestGroupsStay(t *testing.T) {
	for _, groups := range []map[string]impl.Group{someGroups(), invalidGroups()} {
		for what, g := range groups {
			for name, call := range groupCalls(len(g.Nodes)) {
				given := roomyGroup(g)
				before := copiedGroup(impl.Group{Leader: given.Leader, Nodes: wholeNodes(given)})
				same := func() bool {
					return sameGroups(impl.Group{Leader: given.Leader, Nodes: wholeNodes(given)}, before)
				}
				first, second := call(given), call(given)
				want := copiedGroup(second)
				if !same() || !sameGroups(first, second) {
					t.Fatalf("%s: %s changes its argument", what, name)
				}
				overwriteGroup(first)
				if !same() || !sameGroups(second, want) {
					t.Fatalf("%s: the result of %s shares memory", what, name)
				}
				overwriteGroup(given)
				if !sameGroups(second, want) {
					t.Fatalf("%s: the result of %s shares memory with its argument", what, name)
				}
			}
		}
	}
}

// checkLogsApart overwrites the lines of one node after the other, also behind
// them, and expects the lines of the others as they were.
func checkLogsApart(t *testing.T, what string, g impl.Group) {
	t.Helper()
	for i, n := range g.Nodes {
		want := copiedGroup(g)
		overwriteLines(n.Log[:cap(n.Log)])
		overwriteLines(want.Nodes[i].Log)
		checkSameGroup(t, what+", overwritten at "+strconv.Itoa(i), g, want)
	}
}

// TestLogsApart expects logs that share nothing within a result.
func TestLogsApart(t *testing.T) {
	for _, groups := range []map[string]impl.Group{someGroups(), invalidGroups()} {
		for what, g := range groups {
			for name, call := range groupCalls(len(g.Nodes)) {
				checkLogsApart(t, what+", "+name, call(g))
			}
			// All nodes of the argument share one log here.
			for i := range g.Nodes {
				g.Nodes[i].Log = g.Nodes[0].Log
			}
			for name, call := range groupCalls(len(g.Nodes)) {
				checkLogsApart(t, what+", shared, "+name, call(g))
			}
		}
	}
	for n := range 8 {
		g := impl.NewGroup(n)
		checkLogsApart(t, "new", g)
		overwriteGroup(g)
		checkSameGroup(t, "new again", impl.NewGroup(n), map[bool]impl.Group{true: nodesOf(n, impl.Node{}), false: {}}[n > 0])
	}
}

// TestGroupQuestionsStay expects that no question changes its argument, and that
// the answers share nothing.
func TestGroupQuestionsStay(t *testing.T) {
	for _, groups := range []map[string]impl.Group{someGroups(), invalidGroups()} {
		for what, g := range groups {
			given := roomyGroup(g)
			before := copiedGroup(impl.Group{Leader: given.Leader, Nodes: wholeNodes(given)})
			impl.GroupOk(given)
			first, second := impl.Committed(given), impl.Committed(given)
			overwrite(impl.Replay(given))
			state := impl.Replay(given)
			spare := first[:cap(first)]
			for i := range spare {
				spare[i] = "overwritten"
			}
			checkSameGroup(t, what, impl.Group{Leader: given.Leader, Nodes: wholeNodes(given)}, before)
			overwriteGroup(given)
			if !slices.Equal(second, committedOf(g)) || !sameLists(state, replayOf(g)) {
				t.Errorf("%s: the answers share memory", what)
			}
		}
	}
}

// TestGroupsAtOnce calls all functions for one group from several goroutines.
func TestGroupsAtOnce(t *testing.T) {
	var all sync.WaitGroup
	for what, g := range someGroups() {
		for range 4 {
			all.Go(func() { checkGroupLikeModels(t, what+", at once", g, "z") })
		}
	}
	all.Wait()
}

// TestElectionsAreDeterministic holds the same election and counts the same lines
// again and again.
func TestElectionsAreDeterministic(t *testing.T) {
	g := groupFrom("1 5/0:2a 5/0:2a,5b 5/0:2a,5b 6/0: 5/0:2a,2b x5/0:2a,5b 3/0:")
	for i := range len(g.Nodes) {
		want, won := electOf(g, i)
		for range 300 {
			checkElect(t, "again", g, i, want, won)
			checkAdvance(t, "again", g, advanceOf(g))
		}
	}
}

// TestGoroutinesEnd expects that no goroutine is left by a call.
func TestGoroutinesEnd(t *testing.T) {
	before := runtime.NumGoroutine()
	for _, groups := range []map[string]impl.Group{someGroups(), invalidGroups()} {
		for _, g := range groups {
			for _, call := range groupCalls(len(g.Nodes)) {
				call(g)
			}
			impl.Replay(g)
		}
	}
	// One that has done all its work may need a moment to end.
	for end := time.Now().Add(5 * time.Second); runtime.NumGoroutine() > before && time.Now().Before(end); {
		time.Sleep(time.Millisecond)
	}
	if left := runtime.NumGoroutine() - before; left > 0 {
		t.Errorf("%d goroutines are left", left)
	}
}

func FuzzGroup(f *testing.F) {
	for start := range uint32(20) {
		f.Add(someBytes(150, 3000+start), "text")
	}
	f.Fuzz(func(t *testing.T, bytes string, text string) {
		c := &choices{bytes: bytes}
		g := c.group()
		checkGroupLikeModels(t, "fuzz", g, text)
		for c.at < len(c.bytes) && groupOk(g) {
			g, _ = step(t, c, g)
		}
	})
}
