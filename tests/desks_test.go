package tests

import (
	"math"
	"slices"
	"strconv"
	"strings"
	"testing"

	"loop.example/graphmaps/impl"
)

// maxPast is how many graphs of before a desk has at most, and maxLines how many deeds or lines there are at most at once.
const (
	maxPast  = 8
	maxLines = 40
)

func sameDesk(x, y impl.Desk) bool {
	return sameRows(x.Now, y.Now) && slices.EqualFunc(x.Past, y.Past, sameRows)
}

func zeroDesk(d impl.Desk) bool {
	return len(d.Now) == 0 && len(d.Past) == 0
}

func copyOfDesk(d impl.Desk) impl.Desk {
	var past [][][]int
	for _, g := range d.Past {
		past = append(past, copyOf(g))
	}
	return impl.Desk{Now: copyOf(d.Now), Past: past}
}

// pastOf are so many graphs of several sizes, of which no two are equal.
func pastOf(many int, number uint64) [][][]int {
	var past [][][]int
	for at := range many {
		past = append(past, mixedGraph(3+(at+int(number))%7, number+uint64(at)))
	}
	return past
}

// smallDesks have all graphs of at most 2 nodes with each number of graphs of before, and those of 3 nodes with one such number each.
func smallDesks() []impl.Desk {
	var desks []impl.Desk
	for at, g := range allGraphs(3) {
		if len(g) == 3 {
			desks = append(desks, impl.Desk{Now: g, Past: pastOf(at%9, uint64(at))})
			continue
		}
		for many := range maxPast + 1 {
			desks = append(desks, impl.Desk{Now: g, Past: pastOf(many, uint64(at))})
		}
	}
	return desks
}

// graphsForDesks are of every size, cores and graphs that stay the same when they are turned among them.
func graphsForDesks() [][][]int {
	list := mixedGraphs()
	for nodes := 1; nodes <= 9; nodes++ {
		list = append(list, pathByHand(nodes), lineByHand(nodes), ringByHand(nodes), wholeByHand(nodes), bothWaysByHand(pathByHand(nodes)), sparseGraph(nodes, 5))
		if nodes > 1 {
			list = append(list, besideByHand(pathByHand(nodes-1), plainNode()), besideByHand(loopNode(), ringByHand(nodes-1)))
		}
	}
	return list
}

// largerDesks have graphs of every size, with none before, one, one fewer than there may be, and as many.
func largerDesks() []impl.Desk {
	var desks []impl.Desk
	for at, g := range graphsForDesks() {
		for _, many := range []int{0, 1, maxPast - 1, maxPast} {
			desks = append(desks, impl.Desk{Now: g, Past: pastOf(many, uint64(at))})
		}
	}
	return desks
}

func badDesks() map[string]impl.Desk {
	desks := map[string]impl.Desk{
		"nothing":       {},
		"no graph now":  {Past: pastOf(1, 1)},
		"9 of before":   {Now: plainNode(), Past: pastOf(9, 1)},
		"10 of before":  {Now: loopNode(), Past: pastOf(10, 1)},
		"256 of before": {Now: fullGraph(9), Past: pastOf(256, 1)},
	}
	for name, bad := range badGraphs() {
		desks[name+" now"] = impl.Desk{Now: bad}
		desks[name+" now, and graphs of before"] = impl.Desk{Now: bad, Past: pastOf(3, 1)}
		for _, place := range [][2]int{{0, 1}, {0, 8}, {4, 8}, {7, 8}} {
			past := pastOf(place[1], 1)
			past[place[0]] = bad
			desks[name+" as graph "+strconv.Itoa(place[0])+" of before of "+strconv.Itoa(place[1])] = impl.Desk{Now: ringByHand(2), Past: past}
		}
	}
	return desks
}

// numbersBeyond are none of any nodes, nor of any digits.
func numbersBeyond() []int {
	return []int{-1, -2, 9, 10, 11, 16, 48, 256, 1 << 32, math.MinInt, math.MaxInt}
}

// otherKinds are no kinds of deeds.
func otherKinds() []int {
	return []int{-1, -2, 6, 7, 256, 1 << 32, math.MinInt, math.MaxInt}
}

// deedsAt are all deeds, those that cannot be done among them, that name nodes of a graph of so many, or some number past these.
func deedsAt(nodes int) []impl.Deed {
	numbers := append(numbersFrom(-1, nodes+2), 9, 10)
	var deeds []impl.Deed
	for kind := -1; kind <= 6; kind++ {
		for _, a := range numbers {
			for _, b := range numbers {
				deeds = append(deeds, impl.Deed{Kind: kind, A: a, B: b})
			}
		}
	}
	return deeds
}

// madeByHand is nil for what cannot be done; what CoreOf tells has tests of its own.
func madeByHand(g [][]int, a impl.Deed) [][]int {
	there := func(node int) bool { return node >= 0 && node < len(g) }
	switch {
	case a.Kind == impl.DkArrow && there(a.A) && there(a.B):
		h := copyOf(g)
		h[a.A][a.B] ^= 1
		return h
	case a.Kind == impl.DkDrop && there(a.A) && len(g) > 1 && a.B == 0:
		return partByHand(g, slices.Delete(numbersFrom(0, len(g)), a.A, a.A+1))
	case a.Kind == impl.DkNode && len(g) < 9 && a.A == 0 && a.B == 0:
		return besideByHand(g, plainNode())
	case a.Kind == impl.DkCore && len(g) < 6 && a.A == 0 && a.B == 0:
		core, _ := impl.CoreOf(g)
		return core
	case a.Kind == impl.DkTurn && a.A == 0 && a.B == 0:
		return turnedByHand(g)
	}
	return nil
}

func doneByHand(d impl.Desk, a impl.Deed) (impl.Desk, bool) {
	last := len(d.Past) - 1
	if a == (impl.Deed{Kind: impl.DkBack}) && last >= 0 {
		return impl.Desk{Now: d.Past[last], Past: d.Past[:last]}, true
	}
	now := madeByHand(d.Now, a)
	if now == nil || sameRows(now, d.Now) {
		return d, false
	}
	past := append(slices.Clone(d.Past), d.Now)
	if len(past) > maxPast {
		past = past[1:]
	}
	return impl.Desk{Now: now, Past: past}, true
}

func TestBoundsOfDesks(t *testing.T) {
	if impl.MaxPast != maxPast || impl.MaxLines != maxLines {
		t.Error(impl.MaxPast, impl.MaxLines)
	}
	kinds := []int{impl.DkArrow, impl.DkNode, impl.DkDrop, impl.DkCore, impl.DkTurn, impl.DkBack}
	if !slices.Equal(kinds, numbersFrom(0, 6)) {
		t.Error(kinds)
	}
}

// checkDo reports whether a deed can be done.
func checkDo(t *testing.T, d impl.Desk, a impl.Deed) bool {
	t.Helper()
	after, done := impl.DeskDo(d, a)
	want, can := doneByHand(d, a)
	if done != can || !sameDesk(after, want) {
		t.Fatal(a, "at", d, "leads to", after, done, "not", want, can)
	}
	if !impl.DeskOk(after) {
		t.Fatal(a, "at", d, "leads to what is no desk", after)
	}
	if !done && !sameDesk(after, d) {
		t.Fatal(a, "cannot be done at", d, "but changes it to", after)
	}
	if done && a.Kind != impl.DkBack && len(d.Past) < maxPast {
		if undone, ok := impl.DeskDo(after, impl.Deed{Kind: impl.DkBack}); !ok || !sameDesk(undone, d) {
			t.Fatal(a, "at", d, "is undone to", undone, ok)
		}
	}
	if done && a.Kind == impl.DkCore && (!impl.CoreOk(after.Now) || !impl.SameLevel(after.Now, d.Now)) {
		t.Fatal("the core of", d.Now, "is", after.Now)
	}
	return done
}

// checkAllDeeds checks, too, that each kind of deed can sometimes be done, and sometimes not.
func checkAllDeeds(t *testing.T, desks []impl.Desk, most int) {
	t.Helper()
	done, not := map[int]int{}, map[int]int{}
	for _, d := range desks {
		for _, a := range deedsAt(min(len(d.Now), most)) {
			if checkDo(t, d, a) {
				done[a.Kind]++
			} else {
				not[a.Kind]++
			}
		}
	}
	for kind := impl.DkArrow; kind <= impl.DkBack; kind++ {
		if done[kind] == 0 || not[kind] == 0 {
			t.Error("of the kind", kind, "so many can be done, and not:", done[kind], not[kind])
		}
	}
}

func TestP58WhatWasDoneCanBeUndone(t *testing.T) {
	checkAllDeeds(t, smallDesks(), 3)
}

func TestP58AtLargerDesks(t *testing.T) {
	checkAllDeeds(t, largerDesks(), 9)
}

func TestP58NumbersBeyondAllNodes(t *testing.T) {
	for _, d := range largerDesks() {
		for _, number := range numbersBeyond() {
			for kind := impl.DkArrow; kind <= impl.DkBack; kind++ {
				for _, a := range []impl.Deed{{Kind: kind, A: number}, {Kind: kind, B: number}, {Kind: kind, A: number, B: number}} {
					if checkDo(t, d, a) {
						t.Fatal(a, "can be done at", d)
					}
				}
			}
		}
		for _, kind := range otherKinds() {
			for _, a := range []impl.Deed{{Kind: kind}, {Kind: kind, A: 1}, {Kind: kind, B: 1}} {
				if checkDo(t, d, a) {
					t.Fatal(a, "can be done at", d)
				}
			}
		}
	}
}

// With as many graphs of before as there may be, the first one is gone after each deed, and those behind it stay in order.
func TestP58TheFirstOfBeforeAreGone(t *testing.T) {
	d, ok := impl.DeskNew(plainNode())
	if !ok {
		t.Fatal(d)
	}
	var before [][][]int
	for count := 1; count <= 30; count++ {
		before = append(before, copyOf(d.Now))
		deed := impl.Deed{Kind: impl.DkArrow}
		if count%4 == 0 && len(d.Now) < 9 {
			deed = impl.Deed{Kind: impl.DkNode}
		}
		if d, ok = impl.DeskDo(d, deed); !ok {
			t.Fatal(count, d)
		}
		want := before[max(0, count-maxPast):]
		if !slices.EqualFunc(d.Past, want, sameRows) {
			t.Fatal("after", count, "deeds there were", d.Past, "not", want)
		}
	}
	for at := range maxPast {
		if d, ok = impl.DeskDo(d, impl.Deed{Kind: impl.DkBack}); !ok || !sameRows(d.Now, before[29-at]) || len(d.Past) != maxPast-1-at {
			t.Fatal(at, d, ok)
		}
	}
	if x, ok := impl.DeskDo(d, impl.Deed{Kind: impl.DkBack}); ok || !sameDesk(x, d) {
		t.Fatal(x, ok)
	}
}

// deskOf takes the text of its graph, and those of the graphs of before.
func deskOf(t *testing.T, now string, past ...string) impl.Desk {
	t.Helper()
	d := impl.Desk{Now: readGraph(t, now)}
	for _, text := range past {
		d.Past = append(d.Past, readGraph(t, text))
	}
	return d
}

// someDeed is a deed at the desk of a graph, which may be none that can be done there.
type someDeed struct {
	now  string
	deed impl.Deed
	want string
	done bool
}

func someDeeds() []someDeed {
	arrow, node, drop, core, turn, back := impl.DkArrow, impl.DkNode, impl.DkDrop, impl.DkCore, impl.DkTurn, impl.DkBack
	return []someDeed{
		{"", impl.Deed{Kind: arrow}, "0", true},
		{"0", impl.Deed{Kind: arrow}, "", true},
		{"", impl.Deed{Kind: arrow, A: 1}, "", false},
		{"", impl.Deed{Kind: arrow, B: 1}, "", false},
		{"1/2/", impl.Deed{Kind: arrow, A: 2}, "1/2/0", true},
		{"1/2/", impl.Deed{Kind: arrow, B: 2}, "12/2/", true},
		{"1/2/", impl.Deed{Kind: arrow, B: 1}, "/2/", true},
		{"1/2/", impl.Deed{Kind: arrow, A: 2, B: 3}, "1/2/", false},
		{"1/2/", impl.Deed{Kind: arrow, A: -1}, "1/2/", false},
		{"////////", impl.Deed{Kind: arrow, A: 8, B: 8}, "////////8", true},
		{"////////", impl.Deed{Kind: arrow, A: 9, B: 8}, "////////", false},
		{"////////", impl.Deed{Kind: arrow, A: 8, B: 9}, "////////", false},
		{"", impl.Deed{Kind: node}, "/", true},
		{"0", impl.Deed{Kind: node}, "0/", true},
		{"1/2/0", impl.Deed{Kind: node}, "1/2/0/", true},
		{"1/2/0", impl.Deed{Kind: node, A: 1}, "1/2/0", false},
		{"1/2/0", impl.Deed{Kind: node, B: 1}, "1/2/0", false},
		{"///////", impl.Deed{Kind: node}, "////////", true},
		{"////////", impl.Deed{Kind: node}, "////////", false},
		{"", impl.Deed{Kind: drop}, "", false},
		{"0", impl.Deed{Kind: drop}, "0", false},
		{"0/1", impl.Deed{Kind: drop}, "0", true},
		{"0/", impl.Deed{Kind: drop, A: 1}, "0", true},
		{"12/2/0", impl.Deed{Kind: drop, A: 1}, "1/0", true},
		{"12/2/0", impl.Deed{Kind: drop}, "1/", true},
		{"12/2/0", impl.Deed{Kind: drop, A: 3}, "12/2/0", false},
		{"12/2/0", impl.Deed{Kind: drop, A: -1}, "12/2/0", false},
		{"12/2/0", impl.Deed{Kind: drop, A: 1, B: 1}, "12/2/0", false},
		{"1/2/3/4/5/6/7/8/0", impl.Deed{Kind: drop, A: 8}, "1/2/3/4/5/6/7/", true},
		{"1/2/3/4/5/6/7/8/0", impl.Deed{Kind: drop, A: 9}, "1/2/3/4/5/6/7/8/0", false},
		{"", impl.Deed{Kind: core}, "", false},
		{"0", impl.Deed{Kind: core}, "0", false},
		{"/", impl.Deed{Kind: core}, "", true},
		{"13/02/13/02", impl.Deed{Kind: core}, "1/0", true},
		{"13/02/13/02", impl.Deed{Kind: core, A: 1}, "13/02/13/02", false},
		{"13/02/13/02", impl.Deed{Kind: core, B: 1}, "13/02/13/02", false},
		{"1/2/0", impl.Deed{Kind: core}, "1/2/0", false},
		{"1/0/0", impl.Deed{Kind: core}, "1/0", true},
		{"1/2/0//0", impl.Deed{Kind: core}, "1/2/0", true},
		{"1/2/3/4/0", impl.Deed{Kind: core}, "1/2/3/4/0", false},
		{"/////", impl.Deed{Kind: core}, "/////", false},
		{"0/////", impl.Deed{Kind: core}, "0/////", false},
		{"////////", impl.Deed{Kind: core}, "////////", false},
		{"", impl.Deed{Kind: turn}, "", false},
		{"0", impl.Deed{Kind: turn}, "0", false},
		{"1/0", impl.Deed{Kind: turn}, "1/0", false},
		{"1/", impl.Deed{Kind: turn}, "/0", true},
		{"1/", impl.Deed{Kind: turn, A: 1}, "1/", false},
		{"1/", impl.Deed{Kind: turn, B: 1}, "1/", false},
		{"1/2/0", impl.Deed{Kind: turn}, "2/0/1", true},
		{"1/2/3/4/5/6/7/8/", impl.Deed{Kind: turn}, "/0/1/2/3/4/5/6/7", true},
		{"1/", impl.Deed{Kind: back}, "1/", false},
		{"1/", impl.Deed{Kind: back, A: 1}, "1/", false},
		{"1/", impl.Deed{Kind: 6}, "1/", false},
		{"1/", impl.Deed{Kind: -1}, "1/", false},
	}
}

func TestDeskDoOfSomeDeeds(t *testing.T) {
	for _, one := range someDeeds() {
		for _, past := range [][]string{nil, {"0"}, {"1/0", "", "0", "1/", "//", "0", "0/1", "/////"}} {
			if one.deed.Kind == impl.DkBack && past != nil {
				continue
			}
			d := deskOf(t, one.now, past...)
			after, done := impl.DeskDo(d, one.deed)
			if impl.GraphText(after.Now) != one.want || done != one.done {
				t.Errorf("%v at %q leads to %q, %v, not to %q, %v", one.deed, one.now, impl.GraphText(after.Now), done, one.want, one.done)
			}
			want := d.Past
			if done {
				want = append(slices.Clone(d.Past), d.Now)
				want = want[max(0, len(want)-maxPast):]
			}
			if !slices.EqualFunc(after.Past, want, sameRows) {
				t.Errorf("%v at %q leaves %v of before, not %v", one.deed, one.now, after.Past, want)
			}
		}
	}
}

func TestBackAtSomeDesks(t *testing.T) {
	back := impl.Deed{Kind: impl.DkBack}
	d := deskOf(t, "1/2/0", "", "0", "1/2/0")
	// What was before may be the same as what is now: it is put back even so.
	for _, want := range []impl.Desk{deskOf(t, "1/2/0", "", "0"), deskOf(t, "0", ""), deskOf(t, "")} {
		after, done := impl.DeskDo(d, back)
		if !done || !sameDesk(after, want) {
			t.Fatal(after, done, "not", want)
		}
		d = after
	}
	if after, done := impl.DeskDo(d, back); done || !sameDesk(after, d) {
		t.Fatal(after, done)
	}
	for _, deed := range []impl.Deed{{Kind: impl.DkBack, A: 1}, {Kind: impl.DkBack, B: 1}, {Kind: impl.DkBack, A: -1, B: -1}} {
		x := deskOf(t, "1/", "", "0")
		if after, done := impl.DeskDo(x, deed); done || !sameDesk(after, x) {
			t.Fatal(deed, after, done)
		}
	}
}

// mixedDeeds are so many deeds of all kinds without any rule, always the same ones for the same numbers. At a desk of a small graph some can be done, and some cannot.
func mixedDeeds(many int, number uint64) []impl.Deed {
	state := number*15485863 + uint64(many)
	next := func(below int) int {
		state = state*6364136223846793005 + 1442695040888963407
		return int(state>>33) % below
	}
	kinds := []int{0, 0, 0, 0, 0, 0, 0, 0, 1, 1, 1, 1, 2, 2, 3, 4, 4, 5, 5, 5, -1, 6}
	list := make([]impl.Deed, many)
	for at := range list {
		deed := impl.Deed{Kind: kinds[next(len(kinds))]}
		if deed.Kind == impl.DkArrow {
			deed.A, deed.B = next(6), next(6)
		}
		if deed.Kind == impl.DkDrop || next(20) == 0 {
			deed.A = next(6)
		}
		if next(20) == 0 {
			deed.B = next(12) - 1
		}
		list[at] = deed
	}
	return list
}

func runByHand(d impl.Desk, list []impl.Deed) (impl.Desk, int) {
	many := 0
	for _, a := range list {
		if after, done := doneByHand(d, a); done {
			d = after
			many++
		}
	}
	return d, many
}

// checkRun takes at most as many deeds as there may be, and answers how many were done.
func checkRun(t *testing.T, d impl.Desk, list []impl.Deed) int {
	t.Helper()
	after, many := impl.DeskRun(d, list)
	want, done := runByHand(d, list)
	if many != done || !sameDesk(after, want) {
		t.Fatal(list, "at", d, "lead to", after, many, "not", want, done)
	}
	if !impl.DeskOk(after) {
		t.Fatal(list, "at", d, "lead to what is no desk", after)
	}
	for cut := range len(list) + 1 {
		between, first := impl.DeskRun(d, list[:cut])
		end, second := impl.DeskRun(between, list[cut:])
		if first+second != many || !sameDesk(end, after) {
			t.Fatal(list, "at", d, "in two parts, cut at", cut, "lead to", end, first, second, "not", after, many)
		}
	}
	return many
}

func TestP59WhateverIsDoneItIsAGraph(t *testing.T) {
	done, left := 0, 0
	for at, d := range append(smallDesks(), largerDesks()...) {
		list := mixedDeeds(at%(maxLines+1), uint64(at))
		many := checkRun(t, d, list)
		done, left = done+many, left+len(list)-many
	}
	if done < 1000 || left < 1000 {
		t.Error("so many were done, and so many left out:", done, left)
	}
}

func TestP59OneDeedAsOften(t *testing.T) {
	for _, d := range []impl.Desk{{Now: plainNode()}, {Now: loopNode(), Past: pastOf(8, 1)}, {Now: pathByHand(3), Past: pastOf(1, 1)}, {Now: fullGraph(9)}} {
		for kind := -1; kind <= 6; kind++ {
			for _, many := range []int{0, 1, 2, 7, 8, 9, 10, 39, 40} {
				checkRun(t, d, slices.Repeat([]impl.Deed{{Kind: kind}}, many))
			}
		}
	}
}

// One deed more than there may be is refused even if none of them could be done.
func TestP59AsManyDeedsAsThereMayBe(t *testing.T) {
	for _, d := range []impl.Desk{{Now: plainNode()}, {Now: fullGraph(9), Past: pastOf(8, 1)}, {Now: ringByHand(3), Past: pastOf(7, 1)}} {
		for _, deed := range []impl.Deed{{}, {Kind: impl.DkTurn}, {Kind: 6}, {Kind: impl.DkDrop, A: 9}} {
			for _, many := range []int{41, 42, 80, 256, 296, 1000} {
				after, done := impl.DeskRun(d, slices.Repeat([]impl.Deed{deed}, many))
				if !zeroDesk(after) || done != 0 {
					t.Error(many, "times", deed, "lead to", after, done)
				}
			}
			if checkRun(t, d, slices.Repeat([]impl.Deed{deed}, 40))%40 > 0 {
				t.Error(deed, "is not always done at", d)
			}
		}
	}
}

func TestDeskRunOfSomeDeeds(t *testing.T) {
	d := deskOf(t, "1/2/")
	after, many := impl.DeskRun(d, []impl.Deed{
		{Kind: impl.DkArrow, A: 2},
		{Kind: impl.DkCore},
		{Kind: impl.DkNode},
		{Kind: impl.DkArrow, A: 3, B: 1},
		{Kind: impl.DkArrow, A: 4, B: 1},
		{Kind: impl.DkBack},
		{Kind: impl.DkDrop, A: 0},
		{Kind: impl.DkTurn},
	})
	if want := deskOf(t, "/0/", "1/2/", "1/2/0", "1/2/0/", "1//"); many != 6 || !sameDesk(after, want) {
		t.Fatal(after, many, "not", want)
	}
}

// deedTexts are all texts of deeds.
func deedTexts() map[string]impl.Deed {
	texts := map[string]impl.Deed{"node": {Kind: 1}, "core": {Kind: 3}, "turn": {Kind: 4}, "back": {Kind: 5}}
	for a, first := range strings.Split("0123456789", "") {
		texts["drop "+first] = impl.Deed{Kind: 2, A: a}
		for b, second := range strings.Split("0123456789", "") {
			texts["arrow "+first+" "+second] = impl.Deed{Kind: 0, A: a, B: b}
		}
	}
	return texts
}

// sortedTexts are all texts of deeds, in their order.
func sortedTexts() []string {
	var list []string
	for text := range deedTexts() {
		list = append(list, text)
	}
	slices.Sort(list)
	return list
}

// textsOfDeeds leads the deeds that have a text to it.
func textsOfDeeds() map[impl.Deed]string {
	texts := map[impl.Deed]string{}
	for text, deed := range deedTexts() {
		texts[deed] = text
	}
	return texts
}

func TestP71TextsOfDeedsAreRead(t *testing.T) {
	texts := textsOfDeeds()
	if len(texts) != 114 {
		t.Fatal("so many deeds have a text:", len(texts))
	}
	numbers := append(numbersFrom(-2, 16), numbersBeyond()...)
	for _, kind := range append(numbersFrom(0, 6), otherKinds()...) {
		for _, a := range numbers {
			for _, b := range numbers {
				deed := impl.Deed{Kind: kind, A: a, B: b}
				text := impl.DeedText(deed)
				if text != texts[deed] {
					t.Fatalf("%v has the text %q, not %q", deed, text, texts[deed])
				}
				if read, ok := impl.ReadDeed(text); ok != (text != "") || ok && read != deed {
					t.Fatalf("%v has the text %q, which is read as %v, %v", deed, text, read, ok)
				}
			}
		}
	}
}

// checkReadDeed takes any text, and reports whether it is that of a deed.
func checkReadDeed(t *testing.T, text string, texts map[string]impl.Deed) bool {
	t.Helper()
	want, is := texts[text]
	deed, ok := impl.ReadDeed(text)
	if ok != is || deed != want {
		t.Fatalf("%q is read as %v, %v, not as %v, %v", text, deed, ok, want, is)
	}
	if ok && impl.DeedText(deed) != text {
		t.Fatalf("%q is read as %v, the text of which is %q", text, deed, impl.DeedText(deed))
	}
	return ok
}

// Each text is read with any one of its bytes left out, with any byte in its place, and with any byte put in before it or at the end.
func TestP72ReadTextsAreCanonical(t *testing.T) {
	texts := deedTexts()
	for text := range texts {
		if !checkReadDeed(t, text, texts) || checkReadDeed(t, text+" ", texts) || checkReadDeed(t, " "+text, texts) || checkReadDeed(t, text+"\n", texts) {
			t.Fatal(text)
		}
		for at := range len(text) + 1 {
			for sign := range 256 {
				checkReadDeed(t, text[:at]+string([]byte{byte(sign)})+text[at:], texts)
				if at < len(text) {
					checkReadDeed(t, text[:at]+string([]byte{byte(sign)})+text[at+1:], texts)
				}
			}
			if at < len(text) {
				checkReadDeed(t, text[:at]+text[at+1:], texts)
			}
			checkReadDeed(t, text[:at], texts)
			checkReadDeed(t, text[at:], texts)
		}
	}
}

// Behind each word all short texts of some signs are read.
func TestP72OfWhateverStandsBehindAWord(t *testing.T) {
	texts := deedTexts()
	read := 0
	for _, word := range []string{"arrow", "node", "drop", "core", "turn", "back", "", "graph", "Drop", "arrowdrop"} {
		for _, row := range slices.Concat(rowsOf(0, 7), rowsOf(1, 7), rowsOf(2, 7), rowsOf(3, 7), rowsOf(4, 7), rowsOf(5, 7)) {
			text := word
			for _, sign := range row {
				text += " 0189-+"[sign : sign+1]
			}
			if checkReadDeed(t, text, texts) {
				read++
			}
		}
	}
	// There are four words without a number, four numbers for a drop, and sixteen pairs for an arrow.
	if read != 4+4+16 {
		t.Error("so many texts are read:", read)
	}
}

func TestReadDeedOfNoTexts(t *testing.T) {
	texts := deedTexts()
	for _, text := range []string{
		"", " ", "\n", "0", "arrow", "arrow ", "arrow 1", "arrow 1 ", "arrow 1  2", "arrow  1 2", "arrow\t1\t2", "arrow 1\n2", "arrow 1,2", "arrow 12",
		"arrow 10 1", "arrow 1 10", "arrow 01 1", "arrow -1 1", "arrow +1 1", "arrow 1 2 3", "arrow 1 2\r", "arrow a b", "arrow 1 2\x00", "arrow \u0661 \u0662", "arrow \xff 1",
		"ARROW 1 2", "Arrow 1 2", "arrows 1 2", "drop", "drop ", "drop 10", "drop 00", "drop -0", "drop 1 0", "drop 1 2", "drop1", "node 0", "node 0 0", "node ", "nodes",
		"core 0", "core core", "turn 0", "turn.", "back 0", "back\n", "back back", "b\x00ack", "undo", "what", strings.Repeat("arrow 1 2 ", 100000), strings.Repeat(" ", 1000000), strings.Repeat("a", 1000000),
	} {
		if checkReadDeed(t, text, texts) {
			t.Errorf("%q is read", text)
		}
	}
}

func journalByHand(s string, texts map[string]impl.Deed) ([]impl.Deed, int) {
	var list []impl.Deed
	read := 0
	for _, line := range strings.SplitAfter(s, "\n") {
		deed, ok := texts[strings.TrimSuffix(line, "\n")]
		if !ok || !strings.HasSuffix(line, "\n") {
			break
		}
		list = append(list, deed)
		read += len(line)
	}
	return list, read
}

// checkReadJournal takes any text, and answers how much of it is read.
func checkReadJournal(t *testing.T, s string, texts map[string]impl.Deed) int {
	t.Helper()
	list, read := impl.ReadJournal(s)
	want, many := journalByHand(s, texts)
	if read != many || !slices.Equal(list, want) {
		t.Fatalf("of %q are read %v, %d, not %v, %d", s, list, read, want, many)
	}
	if text := impl.JournalText(list); text != s[:read] {
		t.Fatalf("of %q is read %d, the text of which is %q", s, read, text)
	}
	return read
}

// withTexts are those of the deeds that have a text.
func withTexts(list []impl.Deed) []impl.Deed {
	texts := textsOfDeeds()
	return slices.DeleteFunc(slices.Clone(list), func(deed impl.Deed) bool { return texts[deed] == "" })
}

// journals are of many lengths, also longer than what is said at once, and one has all deeds.
func journals() [][]impl.Deed {
	list := [][]impl.Deed{nil}
	for many := range 60 {
		list = append(list, withTexts(mixedDeeds(many, uint64(many))))
	}
	var all []impl.Deed
	for _, text := range sortedTexts() {
		all = append(all, deedTexts()[text])
		list = append(list, []impl.Deed{deedTexts()[text]})
	}
	return append(list, all)
}

func linesByHand(list []impl.Deed) []string {
	texts := textsOfDeeds()
	var lines []string
	for _, deed := range list {
		lines = append(lines, texts[deed])
	}
	return lines
}

func TestP60WhereverAJournalIsCut(t *testing.T) {
	texts := deedTexts()
	for _, deeds := range journals() {
		text := impl.JournalText(deeds)
		for cut := range len(text) + 1 {
			list, read := impl.ReadJournal(text[:cut])
			lines := strings.Count(text[:cut], "\n")
			if want := strings.LastIndex(text[:cut], "\n") + 1; read != want || !slices.Equal(list, deeds[:lines]) {
				t.Fatalf("of %q are read %v, %d, not %v, %d", text[:cut], list, read, deeds[:lines], want)
			}
			checkReadJournal(t, text[:cut], texts)
		}
	}
}

// What stands behind the first line that is no deed is not read, whatever it is.
func TestP60OfWhatIsNoJournal(t *testing.T) {
	texts := deedTexts()
	for _, deeds := range journals() {
		text := impl.JournalText(deeds)
		for _, other := range []string{"\n", " \n", "nodes\n", "node \n", " node\n", "node\r\n", "\x00\n", "arrow 1\n", "arrow 0 10\n", "drop 1 2\n", "graph\n", "what", " ", "\xff"} {
			if read := checkReadJournal(t, text+other+text, texts); read != len(text) {
				t.Fatalf("of %q before %q is read %d", text, other, read)
			}
			if read := checkReadJournal(t, other+text, texts); read != 0 {
				t.Fatalf("of %q before %q is read %d", other, text, read)
			}
		}
	}
	for _, text := range []string{"", "node", "node\n", "\nnode\n", "node\n\n", "node\n\nnode\n", "nodenode\n", "node node\n", "node\nnode", "drop 1\ndrop 1 \ndrop 1\n", strings.Repeat("node\n", 50000) + "nod"} {
		checkReadJournal(t, text, texts)
	}
	if list, read := impl.ReadJournal("arrow 2 1\nback\ndrop"); read != 15 || !slices.Equal(list, []impl.Deed{{Kind: impl.DkArrow, A: 2, B: 1}, {Kind: impl.DkBack}}) {
		t.Fatal(list, read)
	}
}

func TestP60JournalsSaidLineByLine(t *testing.T) {
	for at, d := range append(smallDesks(), largerDesks()...) {
		deeds := withTexts(mixedDeeds(at%(maxLines+1), uint64(at)))
		list, _ := impl.ReadJournal(impl.JournalText(deeds))
		want, many := impl.DeskRun(d, list)
		after, answers := impl.DeskSay(d, linesByHand(deeds))
		if !sameDesk(after, want) || len(answers) != len(deeds) {
			t.Fatal(deeds, "at", d, "said line by line lead to", after, answers, "not", want)
		}
		for _, answer := range answers {
			if answer == "ok" {
				many--
			} else if answer != "not" {
				t.Fatal(deeds, "at", d, "are answered by", answers)
			}
		}
		if many != 0 {
			t.Fatal(deeds, "at", d, "are answered by", answers)
		}
	}
}

func TestP73JournalsAreRead(t *testing.T) {
	for _, deeds := range journals() {
		want := ""
		for _, line := range linesByHand(deeds) {
			want += line + "\n"
		}
		text := impl.JournalText(deeds)
		if text != want {
			t.Fatalf("%v have the text %q, not %q", deeds, text, want)
		}
		if list, read := impl.ReadJournal(text); read != len(text) || !slices.Equal(list, deeds) {
			t.Fatalf("%q is read as %v, %d", text, list, read)
		}
	}
}

func TestP73OneDeedWithoutAText(t *testing.T) {
	for _, bad := range []impl.Deed{{Kind: -1}, {Kind: 6}, {A: 10}, {B: -1}, {A: -1, B: 10}, {Kind: 2, A: 10}, {Kind: 2, B: 1}, {Kind: 1, A: 1}, {Kind: 3, B: 1}, {Kind: 4, A: -1}, {Kind: 5, A: 1, B: 1}} {
		for _, deeds := range journals() {
			for _, at := range []int{0, len(deeds) / 2, len(deeds)} {
				if text := impl.JournalText(slices.Insert(slices.Clone(deeds), at, bad)); text != "" {
					t.Fatalf("%v with %v at %d have the text %q", deeds, bad, at, text)
				}
			}
		}
	}
}

// textsBeside are those of graphs, of one node and of 9 among them, and of such to which or from which rows are not few.
func textsBeside() []string {
	return []string{"", "0", "/", "1/", "1/0", "1/1", "0/1", "//", "1/2/", "12/2/", "1/2/0", "12/02/01", "012/012/012", "1/2/3/0", "1/2/3/4/0", "1/2/3/4/5/0", "///////", "////////", "1/2/3/4/5/6/7/8/", "1/2/3/4/5/6/7/8/0", "0////////"}
}

// otherLines are answered by what.
func otherLines() []string {
	lines := []string{
		"", " ", "\n", "\x00", "\xff", "what", "ok", "not", "none", "yes", "Graph", "GRAPH", "graph ", " graph", "graph\n", "graph graph", "graph 1/", "graphs", "grap", "node ", "arrow", "arrow ", "core ", "longest ", "longest 1/",
		"colours 3", "colors", "turns ", "turns 1/", "rings 3", "ring", "parts ", "part", "nodes ", "nodes 1", "arrows ", "arrows 1", "undo", "past", "below", "above", "maps", "map", "map 1/", "Below 1/", "belo w", "below1/", "below\t1/", " below 1/", "same 1/",
		"arrow 1", "arrow 0 10", "arrow 10 0", "arrow -1 0", "arrow 01 0", "arrow 0  1", "drop", "drop 10", "drop 1 0", "drop -1", "turn 0", "back back", "back\n",
	}
	for _, word := range []string{"below", "above", "maps"} {
		for _, text := range []string{" ", "1", "2/", "9", "10/", "01/1/3", "11/", "1/ ", " 1/", "1/\n", "0 ", "a", "-1", "1//3", "/////////", "0/////////", "////////9", "\xff", "\x00", "0/1/2/3/4/5/6/7/8/"} {
			lines = append(lines, word+" "+text)
		}
	}
	return lines
}

func questionsByHand() []string {
	lines := []string{"graph", "nodes", "arrows", "longest", "colours", "turns", "rings", "parts"}
	for _, word := range []string{"below", "above", "maps"} {
		for _, text := range textsBeside() {
			lines = append(lines, word+" "+text)
		}
	}
	return lines
}

func allLines() []string {
	return slices.Concat(sortedTexts(), questionsByHand(), otherLines())
}

func yesByHand(is bool) string {
	return map[bool]string{false: "no", true: "yes"}[is]
}

func coloursTold(g [][]int) string {
	for many := 1; many <= 4 && len(g) <= 4; many++ {
		if countColoursByHand(g, many) > 0 {
			return strconv.Itoa(many)
		}
	}
	return "none"
}

func ringsTold(g [][]int) string {
	text := ""
	for nodes := 1; nodes <= 9; nodes++ {
		if _, ok := levelsByHand(g, nodes); ok {
			text += strconv.Itoa(nodes)
		}
	}
	return text
}

// toldByHand answers questions about a graph alone; "" for other words.
func toldByHand(g [][]int, word string) string {
	switch word {
	case "graph":
		return ":" + textByHand(g)
	case "nodes":
		return strconv.Itoa(len(g))
	case "arrows":
		return strconv.Itoa(len(slices.DeleteFunc(slices.Concat(g...), func(number int) bool { return number == 0 })))
	case "longest":
		if nodes, ok := longestByHand(g); ok {
			return strconv.Itoa(nodes)
		}
		return "none"
	case "colours":
		return coloursTold(g)
	case "turns":
		if len(g) <= 5 {
			return strconv.Itoa(turnsByHand(g, ordersOf(len(g))))
		}
		return "none"
	case "rings":
		return ringsTold(g)
	case "parts":
		return yesByHand(onePartByHand(g))
	}
	return ""
}

// besideTold answers questions about a graph and another one; what maps there are has tests of its own.
func besideTold(g, other [][]int, word string) string {
	from, to := other, g
	if word == "above" {
		from, to = g, other
	}
	if !fewByHand(from, to) {
		return "none"
	}
	many := impl.CountOf(from, to)
	if word == "maps" {
		return strconv.Itoa(many)
	}
	return yesByHand(many > 0)
}

// answeredByHand takes a line that is no text of a deed.
func answeredByHand(g [][]int, line string) string {
	if answer := toldByHand(g, line); answer != "" {
		return answer
	}
	for _, word := range []string{"below", "above", "maps"} {
		for _, text := range textsBeside() {
			if line == word+" "+text {
				other, _ := impl.ReadGraph(text)
				return besideTold(g, other, word)
			}
		}
	}
	return "what"
}

func lineByDeed(d impl.Desk, line string, texts map[string]impl.Deed) (impl.Desk, string) {
	deed, is := texts[line]
	if !is {
		return d, answeredByHand(d.Now, line)
	}
	after, done := doneByHand(d, deed)
	return after, map[bool]string{false: "not", true: "ok"}[done]
}

// checkLine answers what the line is answered by.
func checkLine(t *testing.T, d impl.Desk, line string, texts map[string]impl.Deed) string {
	t.Helper()
	after, answer := impl.DeskLine(d, line)
	want, told := lineByDeed(d, line, texts)
	if answer != told || !sameDesk(after, want) {
		t.Fatalf("%q at %v is answered by %q, not %q, and leads to %v, not %v", line, d, answer, told, after, want)
	}
	if !impl.DeskOk(after) || answer == "" || answer != "ok" && !sameDesk(after, d) {
		t.Fatalf("%q at %v is answered by %q, and leads to %v", line, d, answer, after)
	}
	return answer
}

func checkAllLines(t *testing.T, desks []impl.Desk) {
	t.Helper()
	texts, lines, answers := deedTexts(), allLines(), map[string]int{}
	for _, d := range desks {
		for _, line := range lines {
			answers[checkLine(t, d, line, texts)]++
		}
	}
	for _, answer := range []string{"ok", "not", "yes", "no", "none", "what", "0", "1", "2"} {
		if answers[answer] == 0 {
			t.Error("nothing is answered by", answer)
		}
	}
}

func TestP74QuestionsChangeNothing(t *testing.T) {
	checkAllLines(t, smallDesks())
}

func TestP74AtLargerDesks(t *testing.T) {
	var some []impl.Desk
	for at, d := range largerDesks() {
		if at%4 == at/4%4 {
			some = append(some, d)
		}
	}
	checkAllLines(t, some)
}

func TestP74OtherLinesAreAnsweredByWhat(t *testing.T) {
	for _, d := range largerDesks() {
		for _, line := range []string{"", " ", "below", "above", "maps", "graph ", "below 9", "arrow", "drop 10"} {
			if after, answer := impl.DeskLine(d, line); answer != "what" || !sameDesk(after, d) {
				t.Fatalf("%q at %v is answered by %q, and leads to %v", line, d, answer, after)
			}
		}
	}
}

func TestLongLines(t *testing.T) {
	d := impl.Desk{Now: ringByHand(3), Past: pastOf(2, 1)}
	for _, sign := range []string{"/", "0", " ", "a", "\n", "\x00", "\xff", "arrow 0 0", "below ", "node\n", "1/"} {
		for _, word := range []string{"", "below ", "above ", "maps ", "arrow ", "graph ", "node"} {
			if after, answer := impl.DeskLine(d, word+strings.Repeat(sign, 100000)); answer != "what" || !sameDesk(after, d) {
				t.Errorf("%q and %q, over and over, is answered by %q, and leads to %v", word, sign, answer, after)
			}
		}
	}
}

func TestDeskLineOfSomeQuestions(t *testing.T) {
	nine, ring := "////////", "1/2/3/4/5/6/7/8/0"
	for _, one := range [][3]string{
		{"", "graph", ":"}, {"0", "graph", ":0"}, {"/", "graph", ":/"}, {"12/2/", "graph", ":12/2/"}, {ring, "graph", ":" + ring},
		{"", "nodes", "1"}, {"1/2/0", "nodes", "3"}, {nine, "nodes", "9"},
		{"", "arrows", "0"}, {"0", "arrows", "1"}, {"01/01", "arrows", "4"}, {ring, "arrows", "9"},
		{"", "longest", "1"}, {"0", "longest", "none"}, {"1/2/", "longest", "3"}, {"1/0", "longest", "none"}, {nine, "longest", "1"}, {"1/2/3/4/5/6/7/8/", "longest", "9"}, {ring, "longest", "none"},
		{"", "colours", "1"}, {"0", "colours", "none"}, {"1/2/0", "colours", "3"}, {"123/023/013/012", "colours", "4"}, {"1///", "colours", "2"}, {"////", "colours", "none"}, {nine, "colours", "none"},
		{"", "turns", "1"}, {"0", "turns", "1"}, {"1/2/0", "turns", "3"}, {"1/2/", "turns", "1"}, {"////", "turns", "120"}, {"/////", "turns", "none"}, {ring, "turns", "none"},
		{"", "rings", "123456789"}, {"0", "rings", "1"}, {"1/0", "rings", "12"}, {"1/2/3/4/5/0", "rings", "1236"}, {ring, "rings", "139"}, {nine, "rings", "123456789"},
		{"", "parts", "yes"}, {"0", "parts", "yes"}, {"/", "parts", "no"}, {"1/", "parts", "yes"}, {nine, "parts", "no"}, {ring, "parts", "yes"},
		{"1/", "below ", "yes"}, {"1/", "below 0", "no"}, {"1/", "below 1/", "yes"}, {"1/", "below 1/2/", "no"}, {nine, "below ///", "yes"}, {nine, "below ////", "none"}, {nine, "below 0", "no"}, {nine, "below 1/2/3/4/0", "none"}, {"1/0", "below " + nine, "yes"}, {"//", "below " + nine, "none"},
		{"1/", "above ", "no"}, {"1/", "above 0", "yes"}, {"1/", "above 1/0", "yes"}, {"", "above " + nine, "yes"}, {nine, "above 0", "yes"}, {ring, "above ", "no"}, {nine, "above 1/", "yes"}, {nine, "above //", "none"}, {"////", "above ////", "yes"}, {"/////", "above ////", "none"},
		{"1/", "maps ", "2"}, {"1/", "maps 1/", "1"}, {"1/", "maps 0", "0"}, {"01/01", "maps //", "8"}, {nine, "maps ///", "6561"}, {nine, "maps ////", "none"}, {ring, "maps 1/2/", "9"}, {"0", "maps " + ring, "1"}, {"1/0", "maps " + ring, "0"}, {"//", "maps " + nine, "none"},
		{"1/", "below", "what"}, {"1/", "below  ", "what"}, {"1/", "below 2/", "what"}, {"1/", "below 1/ ", "what"}, {"1/", "above 01/2", "what"}, {"1/", "maps /////////", "what"}, {"1/", "maps 1/\n", "what"},
	} {
		for _, past := range [][]string{nil, {"0", "1/0", nine}} {
			d := deskOf(t, one[0], past...)
			if after, answer := impl.DeskLine(d, one[1]); answer != one[2] || !sameDesk(after, d) {
				t.Errorf("%q at %q is answered by %q, not %q, and leads to %v", one[1], one[0], answer, one[2], after)
			}
		}
	}
}

func TestDeskLineOfSomeDeeds(t *testing.T) {
	for _, one := range someDeeds() {
		text := impl.DeedText(one.deed)
		if text == "" {
			continue
		}
		want := map[bool]string{false: "not", true: "ok"}[one.done]
		if after, answer := impl.DeskLine(deskOf(t, one.now), text); answer != want || impl.GraphText(after.Now) != one.want {
			t.Errorf("%q at %q is answered by %q, not %q, and leads to %v", text, one.now, answer, want, after)
		}
	}
	for _, text := range []string{"arrow 9 9", "arrow 0 9", "arrow 9 0", "drop 9", "node", "core"} {
		if after, answer := impl.DeskLine(deskOf(t, "1/2/3/4/5/6/7/8/0"), text); answer != "not" || impl.GraphText(after.Now) != "1/2/3/4/5/6/7/8/0" {
			t.Errorf("%q of 9 nodes is answered by %q, and leads to %v", text, answer, after)
		}
	}
}

// mixedLines are so many lines without any rule, always the same ones for the same numbers: half of them are deeds.
func mixedLines(many int, number uint64) []string {
	deeds, others := linesByHand(withTexts(mixedDeeds(2*many, number))), slices.Concat(questionsByHand(), otherLines())
	var lines []string
	for at, place := range mixedOrder(len(others), number) {
		if len(lines) == many {
			break
		}
		line := others[place]
		if at%2 == 0 && at/2 < len(deeds) {
			line = deeds[at/2]
		}
		lines = append(lines, line)
	}
	return lines
}

// checkSay takes at most as many lines as there may be.
func checkSay(t *testing.T, d impl.Desk, lines []string, texts map[string]impl.Deed) {
	t.Helper()
	after, answers := impl.DeskSay(d, lines)
	want, told := d, make([]string, len(lines))
	for at, line := range lines {
		want, told[at] = lineByDeed(want, line, texts)
	}
	if !sameDesk(after, want) || !slices.Equal(answers, told) {
		t.Fatalf("%q at %v are answered by %q, not %q, and lead to %v, not %v", lines, d, answers, told, after, want)
	}
	if slices.Contains(answers, "") {
		t.Fatalf("%q at %v are answered by %q", lines, d, answers)
	}
	for cut := range len(lines) + 1 {
		between, first := impl.DeskSay(d, lines[:cut])
		end, second := impl.DeskSay(between, lines[cut:])
		if !sameDesk(end, after) || !slices.Equal(slices.Concat(first, second), answers) {
			t.Fatalf("%q at %v in two parts, cut at %d, are answered by %q and %q, and lead to %v", lines, d, cut, first, second, end)
		}
	}
	for _, line := range []string{"below ", "above 0"} {
		if end, answer := impl.DeskLine(after, line); answer != "yes" || !sameDesk(end, after) {
			t.Fatalf("%q at %v is answered by %q", line, after, answer)
		}
	}
}

func TestP61WhateverIsSaidOneNodeIsBelow(t *testing.T) {
	texts := deedTexts()
	for at, d := range append(smallDesks(), largerDesks()...) {
		checkSay(t, d, mixedLines(at%(maxLines+1), uint64(at)), texts)
	}
}

// One line more than there may be is refused, whatever the lines are.
func TestP61AsManyLinesAsThereMayBe(t *testing.T) {
	texts := deedTexts()
	for _, d := range []impl.Desk{{Now: plainNode()}, {Now: fullGraph(9), Past: pastOf(8, 1)}, {Now: ringByHand(3), Past: pastOf(7, 1)}} {
		for _, line := range []string{"", "graph", "arrow 0 0", "node", "turn", "what", "below "} {
			for _, many := range []int{0, 1, 8, 9, 39, 40} {
				checkSay(t, d, slices.Repeat([]string{line}, many), texts)
			}
			for _, many := range []int{41, 42, 80, 256, 296, 1000} {
				if after, answers := impl.DeskSay(d, slices.Repeat([]string{line}, many)); !zeroDesk(after) || len(answers) != 0 {
					t.Errorf("%d times %q are answered by %q, and lead to %v", many, line, answers, after)
				}
			}
		}
	}
}

func TestExamplesOfDesks(t *testing.T) {
	said := [][2]string{
		{"longest", "3"}, {"colours", "2"}, {"maps 1/", "2"}, {"below 1/0", "no"}, {"above 1/0", "yes"}, {"arrow 2 0", "ok"}, {"longest", "none"}, {"rings", "13"}, {"turns", "3"},
		{"node", "ok"}, {"arrow 3 0", "ok"}, {"core", "ok"}, {"graph", ":1/2/0"}, {"turn", "ok"}, {"graph", ":2/0/1"},
	}
	d, ok := impl.DeskNew(pathByHand(3))
	if !ok {
		t.Fatal(d)
	}
	var lines []string
	for _, one := range said {
		lines = append(lines, one[0])
	}
	after, answers := impl.DeskSay(d, lines)
	if want := deskOf(t, "2/0/1", "1/2/", "1/2/0", "1/2/0/", "1/2/0/0", "1/2/0"); len(answers) != len(said) || !sameDesk(after, want) {
		t.Fatal(after, answers)
	}
	for at, one := range said {
		if answers[at] != one[1] {
			t.Errorf("%q is answered by %q, not %q", one[0], answers[at], one[1])
		}
	}
}

func TestP69DesksCanForget(t *testing.T) {
	for _, d := range append(smallDesks(), largerDesks()...) {
		if !impl.DeskOk(d) || !impl.DeskOk(impl.Desk{Now: d.Now}) || !impl.DeskOk(impl.Desk{Now: d.Now, Past: [][][]int{}}) {
			t.Fatal(d, "is no desk")
		}
		for many := range d.Past {
			if !impl.DeskOk(impl.Desk{Now: d.Now, Past: d.Past[:many]}) || !impl.DeskOk(impl.Desk{Now: d.Now, Past: d.Past[many:]}) {
				t.Fatal(d, "is no desk with fewer graphs of before, cut at", many)
			}
		}
	}
}

func TestP69AsManyGraphsOfBeforeAsThereMayBe(t *testing.T) {
	for _, now := range [][][]int{plainNode(), loopNode(), fullGraph(9)} {
		for many := range 300 {
			if impl.DeskOk(impl.Desk{Now: now, Past: pastOf(many, 1)}) != (many <= maxPast) {
				t.Error("with", many, "graphs of before it is a desk:", many > maxPast)
			}
		}
		for _, before := range [][][]int{plainNode(), loopNode(), emptyGraph(9), fullGraph(9)} {
			if !impl.DeskOk(impl.Desk{Now: now, Past: slices.Repeat([][][]int{before}, maxPast)}) {
				t.Error(before, "cannot have been before", now)
			}
		}
	}
}

func TestP70NewDesksHaveOneGraph(t *testing.T) {
	for _, g := range append(manyGraphs(), graphsForDesks()...) {
		if d, ok := impl.DeskNew(g); !ok || !impl.DeskOk(d) || !sameRows(d.Now, g) || len(d.Past) != 0 {
			t.Fatal(g, "has the desk", d, ok)
		}
	}
	for name, bad := range badGraphs() {
		if d, ok := impl.DeskNew(bad); ok || !zeroDesk(d) {
			t.Error(name, "has the desk", d, ok)
		}
	}
}

func TestNothingIsDoneAtBadDesks(t *testing.T) {
	for name, d := range badDesks() {
		if impl.DeskOk(d) {
			t.Error(name, "is a desk")
		}
		for _, deed := range []impl.Deed{{}, {A: 1}, {Kind: impl.DkNode}, {Kind: impl.DkDrop}, {Kind: impl.DkCore}, {Kind: impl.DkTurn}, {Kind: impl.DkBack}, {Kind: 6}, {Kind: impl.DkBack, A: 1}} {
			if after, done := impl.DeskDo(d, deed); done || !zeroDesk(after) {
				t.Error(name, deed, "leads to", after, done)
			}
			for _, many := range []int{0, 1, 40, 41} {
				if after, done := impl.DeskRun(d, slices.Repeat([]impl.Deed{deed}, many)); done != 0 || !zeroDesk(after) {
					t.Error(name, many, "times", deed, "lead to", after, done)
				}
			}
		}
		for _, line := range []string{"", "what", "graph", "nodes", "parts", "below ", "above 0", "maps 1/", "arrow 0 0", "node", "core", "turn", "back", "drop 9"} {
			if after, answer := impl.DeskLine(d, line); answer != "" || !zeroDesk(after) {
				t.Errorf("%s: %q is answered by %q, and leads to %v", name, line, answer, after)
			}
			for _, many := range []int{0, 1, 40, 41} {
				if after, answers := impl.DeskSay(d, slices.Repeat([]string{line}, many)); len(answers) != 0 || !zeroDesk(after) {
					t.Errorf("%s: %d times %q are answered by %q, and lead to %v", name, many, line, answers, after)
				}
			}
		}
	}
}

// roomyDesk is a copy of a desk with spare capacity everywhere, in which a write would be seen.
func roomyDesk(d impl.Desk) impl.Desk {
	past := make([][][]int, 0, len(d.Past)+2)
	for _, g := range d.Past {
		past = append(past, roomyRows(g))
	}
	past = append(past, [][]int{{filler}}, [][]int{{filler}})
	return impl.Desk{Now: roomyRows(d.Now), Past: past[:len(d.Past)]}
}

func unchangedDesk(d, before impl.Desk) bool {
	if !unchangedRows(d.Now, before.Now) || !slices.EqualFunc(d.Past, before.Past, unchangedRows) {
		return false
	}
	spare := d.Past[len(d.Past) : len(d.Past)+2]
	return sameRows(spare[0], [][]int{{filler}}) && sameRows(spare[1], [][]int{{filler}})
}

// checkOwnDesk checks that no graph of a desk reaches memory of another one, and overwrites all of them.
func checkOwnDesk(t *testing.T, d impl.Desk) {
	t.Helper()
	want := copyOfDesk(d)
	checkOwnRows(t, d.Now)
	for at, g := range d.Past {
		if !sameRows(g, want.Past[at]) {
			t.Fatal("the graph", at, "of before shares memory with one before it, or that of now")
		}
		checkOwnRows(t, g)
	}
	all := d.Past[:cap(d.Past)]
	for at := range all {
		all[at] = [][]int{{filler}}
	}
}

// checkNewDesk overwrites one result, and looks whether the desk and other results stay as they were.
func checkNewDesk(t *testing.T, name string, before impl.Desk, result func(d impl.Desk) impl.Desk) {
	t.Helper()
	d := roomyDesk(before)
	x := result(d)
	want := copyOfDesk(x)
	y := result(d)
	checkOwnDesk(t, x)
	if !unchangedDesk(d, before) {
		t.Fatal(name, "shares memory with the desk", before, "or writes to it")
	}
	if zeroDesk(want) || !sameDesk(y, want) || !sameDesk(result(d), want) {
		t.Fatal(name, "shares memory with another result at", before)
	}
}

// doneDesks answers, by names, the desks to which all deeds lead, those that cannot be done among them.
func doneDesks() map[string]func(d impl.Desk) impl.Desk {
	results := map[string]func(d impl.Desk) impl.Desk{
		"DeskDo of none":   func(d impl.Desk) impl.Desk { x, _ := impl.DeskDo(d, impl.Deed{Kind: 6}); return x },
		"DeskNew":          func(d impl.Desk) impl.Desk { x, _ := impl.DeskNew(d.Now); return x },
		"DeskRun of none":  func(d impl.Desk) impl.Desk { x, _ := impl.DeskRun(d, nil); return x },
		"DeskRun of many":  func(d impl.Desk) impl.Desk { x, _ := impl.DeskRun(d, mixedDeeds(40, 7)); return x },
		"DeskRun and back": func(d impl.Desk) impl.Desk { x, _ := impl.DeskRun(d, []impl.Deed{{}, {Kind: impl.DkBack}}); return x },
		"DeskSay of none":  func(d impl.Desk) impl.Desk { x, _ := impl.DeskSay(d, nil); return x },
		"DeskSay of many":  func(d impl.Desk) impl.Desk { x, _ := impl.DeskSay(d, mixedLines(40, 3)); return x },
	}
	for _, deed := range []impl.Deed{{}, {A: 1}, {A: 9}, {Kind: impl.DkNode}, {Kind: impl.DkDrop}, {Kind: impl.DkDrop, A: 9}, {Kind: impl.DkCore}, {Kind: impl.DkTurn}, {Kind: impl.DkBack}} {
		results["DeskDo "+impl.DeedText(deed)] = func(d impl.Desk) impl.Desk { x, _ := impl.DeskDo(d, deed); return x }
		results["DeskLine "+impl.DeedText(deed)] = func(d impl.Desk) impl.Desk { x, _ := impl.DeskLine(d, impl.DeedText(deed)); return x }
	}
	for _, line := range []string{"", "graph", "rings", "below 1/", "above 1/", "maps ", "what"} {
		results["DeskLine "+line] = func(d impl.Desk) impl.Desk { x, _ := impl.DeskLine(d, line); return x }
	}
	return results
}

func TestResultsOfDesksAreNewMemory(t *testing.T) {
	desks := append(largerDesks(), smallDesks()[:100]...)
	for name, result := range doneDesks() {
		for _, d := range desks {
			checkNewDesk(t, name, d, result)
		}
	}
}

// All graphs at a desk may be one, with rows that are one and the same slice.
func TestDesksMayShareRows(t *testing.T) {
	row := []int{0, 1, 1}
	g := [][]int{row, row, row}
	shared := impl.Desk{Now: g, Past: slices.Repeat([][][]int{g}, maxPast-1)}
	for name, result := range doneDesks() {
		want := result(copyOfDesk(shared))
		x := result(shared)
		if !sameDesk(x, want) {
			t.Fatal(name, x, "not", want)
		}
		checkOwnDesk(t, x)
		if !slices.Equal(row, []int{0, 1, 1}) || !sameRows(g, [][]int{row, row, row}) {
			t.Fatal(name, "shares memory with a desk, or writes to it", g)
		}
	}
	if after, done := impl.DeskDo(shared, impl.Deed{Kind: impl.DkArrow, A: 1}); !done || impl.GraphText(after.Now) != "12/012/12" || impl.GraphText(after.Past[7]) != "12/12/12" {
		t.Fatal(after, done)
	}
}

func TestArgumentsOfDesksAreNotWrittenTo(t *testing.T) {
	desks := append(largerDesks(), impl.Desk{}, impl.Desk{Now: plainNode(), Past: pastOf(9, 1)}, impl.Desk{Now: emptyGraph(10)}, impl.Desk{Now: loopNode(), Past: [][][]int{{{2}}}})
	for at, before := range desks {
		d := roomyDesk(before)
		deeds, lines := mixedDeeds(42, uint64(at)), mixedLines(42, uint64(at))
		list, said := slices.Clone(deeds), slices.Clone(lines)
		for many := range 3 {
			impl.DeskRun(d, list[:many*20])
			impl.DeskSay(d, said[:many*20])
		}
		impl.DeskOk(d)
		impl.DeskNew(d.Now)
		impl.DeskDo(d, list[0])
		impl.DeskRun(d, list)
		impl.JournalText(list)
		impl.JournalText(withTexts(list))
		impl.DeskLine(d, said[0])
		impl.DeskSay(d, said)
		if !unchangedDesk(d, before) || !slices.Equal(list, deeds) || !slices.Equal(said, lines) {
			t.Fatal("written to", before, deeds, lines, "now", d, list, said)
		}
	}
}

func TestListsOfDesksAreNewMemory(t *testing.T) {
	text := "arrow 0 1\nnode\nturn\nback\n"
	list, read := impl.ReadJournal(text)
	want := slices.Clone(list)
	other, _ := impl.ReadJournal(text)
	for at := range list[:cap(list)] {
		list[:cap(list)][at] = impl.Deed{Kind: filler}
	}
	if again, many := impl.ReadJournal(text); read != len(text) || many != read || !slices.Equal(other, want) || !slices.Equal(again, want) {
		t.Error("ReadJournal shares memory with another result")
	}
	lines := append(make([]string, 0, 8), "graph", "node", "what")
	_, answers := impl.DeskSay(deskOf(t, "1/"), lines)
	_, others := impl.DeskSay(deskOf(t, "1/"), lines)
	for at := range answers[:cap(answers)] {
		answers[:cap(answers)][at] = "filler"
	}
	if !slices.Equal(lines, []string{"graph", "node", "what"}) || !slices.Equal(lines[3:8], make([]string, 5)) || !slices.Equal(others, []string{":1/", "ok", "what"}) {
		t.Error("DeskSay shares memory with the lines, or with another result", lines, others)
	}
}

// No call may leave anything for another one.
func TestDesksKeepNothing(t *testing.T) {
	d := deskOf(t, "1/2/", "0", "1/0")
	lines := mixedLines(40, 11)
	want, told := impl.DeskSay(d, lines)
	for at := range 50 {
		impl.DeskSay(deskOf(t, "0/1"), mixedLines(at%41, uint64(at)))
		impl.DeskRun(deskOf(t, "12//"), mixedDeeds(at%41, uint64(at)))
		if after, answers := impl.DeskSay(d, lines); !sameDesk(after, want) || !slices.Equal(answers, told) {
			t.Fatal(after, answers, "not", want, told)
		}
	}
}
