package tests

import (
	"math"
	"runtime"
	"slices"
	"sync"
	"testing"

	"loop.example/graphmaps/impl"
)

// testTexts are the texts of all tests, in their order.
func testTexts() []string {
	return []string{"", "0", "/", "0/", "1/", "01/", "/0", "0/0", "1/0", "01/0", "/1", "0/1", "1/1", "01/1", "/01", "0/01", "1/01", "01/01"}
}

// testsInTwoParts tells for each test in two parts which tests its parts are.
func testsInTwoParts() map[int][2]int {
	return map[int][2]int{2: {0, 0}, 3: {1, 0}, 10: {0, 1}, 11: {1, 1}}
}

// countsByHand tries all rows from the tests, which are all graphs of at most 2 nodes in the order of their numbers.
func countsByHand(g [][]int) []int {
	nodes, both := rowsOf(1, len(g)), rowsOf(2, len(g))
	var counts []int
	for _, test := range allGraphs(2) {
		rows, count := nodes, 0
		if len(test) == 2 {
			rows = both
		}
		for _, row := range rows {
			if mapByHand(test, g, row) {
				count++
			}
		}
		counts = append(counts, count)
	}
	return counts
}

// firstApartByHand is the first test at which two graphs have different counts.
func firstApartByHand(g, h [][]int) (int, bool) {
	first, second := countsByHand(g), countsByHand(h)
	for test := range first {
		if first[test] != second[test] {
			return test, true
		}
	}
	return -1, false
}

// joinedAcross reports whether an arrow leads, whichever way, between the nodes that are digits of a number and all others.
func joinedAcross(g [][]int, digits int) bool {
	for from := range g {
		for to := range g {
			if g[from][to] == 1 && digits>>from&1 != digits>>to&1 {
				return true
			}
		}
	}
	return false
}

// onePartByHand asks for an arrow between any two shares of the nodes, of which none is empty.
func onePartByHand(g [][]int) bool {
	for digits := 1; digits < 1<<len(g)-1; digits++ {
		if !joinedAcross(g, digits) {
			return false
		}
	}
	return true
}

// sparseGraph has about as many arrows as nodes, so that it is in one part or in several.
func sparseGraph(nodes int, number uint64) [][]int {
	g, other, third := mixedGraph(nodes, number), mixedGraph(nodes, number+500), mixedGraph(nodes, number+700)
	return withArrows(g, func(from, to int) bool {
		return other[from][to] == 1 && (third[from][to] == 1 || nodes < 5)
	})
}

// largerGraphs are some graphs of 4 to 9 nodes, in one part, in two and in more.
func largerGraphs() [][][]int {
	var list [][][]int
	for nodes := 4; nodes <= 9; nodes++ {
		list = append(list, emptyGraph(nodes), fullGraph(nodes), pathByHand(nodes), lineByHand(nodes), ringByHand(nodes), wholeByHand(nodes))
		list = append(list, besideByHand(ringByHand(nodes-2), pathByHand(2)), besideByHand(fullGraph(1), wholeByHand(nodes-1)))
		list = append(list, besideByHand(besideByHand(ringByHand(2), emptyGraph(1)), lineByHand(nodes-3)))
		for number := range uint64(6) {
			list = append(list, mixedGraph(nodes, number), bareGraph(nodes, number), sparseGraph(nodes, number), fallingGraph(nodes, number))
			list = append(list, partByHand(pathByHand(nodes), mixedOrder(nodes, number)), levelledGraph(nodes, 3, number))
		}
	}
	return list
}

// countedGraphs are all graphs of at most 3 nodes, and some of each larger size.
func countedGraphs() [][][]int {
	return slices.Concat(allGraphs(3), graphsOf4(331), graphsOf5(), largerGraphs())
}

func TestP48TestsAreAllSmallGraphs(t *testing.T) {
	if impl.MaxTests != 18 || len(testTexts()) != impl.MaxTests {
		t.Fatal(impl.MaxTests)
	}
	seen := map[string]bool{}
	for number, want := range testTexts() {
		g := impl.TestAt(number)
		if !impl.GraphOk(g) || !sameRows(g, readGraph(t, want)) {
			t.Errorf("the test %d is %v, not %q", number, g, want)
		}
		seen[impl.GraphText(g)] = true
	}
	if len(seen) != impl.MaxTests {
		t.Error("there are", len(seen), "tests")
	}
	for _, g := range allGraphs(2) {
		if !seen[textByHand(g)] {
			t.Error(g, "is no test")
		}
	}
}

// Here each arrow is asked for by its own digit.
func TestTestsAreToldByTheirDigits(t *testing.T) {
	if g, h := impl.TestAt(0), impl.TestAt(1); !sameRows(g, [][]int{{0}}) || !sameRows(h, [][]int{{1}}) {
		t.Fatal(g, h)
	}
	for number := 2; number < impl.MaxTests; number++ {
		digits := number - 2
		want := [][]int{{digits % 2, digits / 2 % 2}, {digits / 4 % 2, digits / 8 % 2}}
		if g := impl.TestAt(number); !sameRows(g, want) {
			t.Error("the test", number, "is", g, "not", want)
		}
	}
}

func TestP48WithAnyOtherNumberThereIsNone(t *testing.T) {
	list := []int{256, 257, 258, 1 << 31, 1 << 32, 1<<32 + 1, 1<<32 + 17, -1 << 32, math.MinInt, math.MinInt + 1, math.MinInt + 2, math.MinInt + 17, math.MaxInt - 1, math.MaxInt}
	for number := range 100 {
		list = append(list, -1-number, impl.MaxTests+number)
	}
	for _, number := range list {
		if g := impl.TestAt(number); len(g) != 0 {
			t.Error("the test", number, "is", g)
		}
	}
}

func checkCounts(t *testing.T, g [][]int) {
	t.Helper()
	counts := impl.CountsOf(g)
	if want := countsByHand(g); !slices.Equal(counts, want) {
		t.Fatal(g, "has the counts", counts, "not", want)
	}
	for test, count := range counts {
		if many := impl.CountOf(impl.TestAt(test), g); many != count {
			t.Fatal(g, "has", count, "at the test", test, "but there are", many, "maps")
		}
	}
}

func TestCountsByHand(t *testing.T) {
	for _, g := range append(countedGraphs(), mixedGraphs()...) {
		checkCounts(t, g)
	}
}

func TestCountsOfSomeGraphs(t *testing.T) {
	for text, want := range map[string][]int{
		"":         {1, 0, 1, 0, 0, 0, 0, 0, 0, 0, 0, 0, 0, 0, 0, 0, 0, 0},
		"0":        {1, 1, 1, 1, 1, 1, 1, 1, 1, 1, 1, 1, 1, 1, 1, 1, 1, 1},
		"/":        {2, 0, 4, 0, 0, 0, 0, 0, 0, 0, 0, 0, 0, 0, 0, 0, 0, 0},
		"1/":       {2, 0, 4, 0, 1, 0, 1, 0, 0, 0, 0, 0, 0, 0, 0, 0, 0, 0},
		"1/0":      {2, 0, 4, 0, 2, 0, 2, 0, 2, 0, 0, 0, 0, 0, 0, 0, 0, 0},
		"0/1":      {2, 2, 4, 4, 2, 2, 2, 2, 2, 2, 4, 4, 2, 2, 2, 2, 2, 2},
		"01/":      {2, 1, 4, 2, 2, 2, 2, 1, 1, 1, 2, 1, 1, 1, 2, 1, 1, 1},
		"0/0":      {2, 1, 4, 2, 2, 1, 2, 2, 1, 1, 2, 1, 2, 1, 1, 1, 1, 1},
		"01/01":    {2, 2, 4, 4, 4, 4, 4, 4, 4, 4, 4, 4, 4, 4, 4, 4, 4, 4},
		"1/2/":     {3, 0, 9, 0, 2, 0, 2, 0, 0, 0, 0, 0, 0, 0, 0, 0, 0, 0},
		"12//":     {3, 0, 9, 0, 2, 0, 2, 0, 0, 0, 0, 0, 0, 0, 0, 0, 0, 0},
		"1/2/0":    {3, 0, 9, 0, 3, 0, 3, 0, 0, 0, 0, 0, 0, 0, 0, 0, 0, 0},
		"12/02/01": {3, 0, 9, 0, 6, 0, 6, 0, 6, 0, 0, 0, 0, 0, 0, 0, 0, 0},
		"////////": {9, 0, 81, 0, 0, 0, 0, 0, 0, 0, 0, 0, 0, 0, 0, 0, 0, 0},
	} {
		if counts := impl.CountsOf(readGraph(t, text)); !slices.Equal(counts, want) {
			t.Errorf("%q has the counts %v", text, counts)
		}
	}
}

// From one node there are as many maps as nodes, and from one with an arrow to itself as many as such nodes; from an arrow as many as arrows.
func TestCountsOfTheLeastTests(t *testing.T) {
	for _, g := range append(countedGraphs(), mixedGraphs()...) {
		loops := 0
		for node := range g {
			loops += g[node][node]
		}
		counts := impl.CountsOf(g)
		if counts[0] != len(g) || counts[1] != loops || counts[4] != impl.ArrowsIn(g) || counts[6] != counts[4] {
			t.Fatal(g, "has the counts", counts)
		}
	}
}

func TestCountsOfGraphsWithoutArrowsAndWithAll(t *testing.T) {
	for nodes := 1; nodes <= 9; nodes++ {
		empty, full := make([]int, 18), slices.Repeat([]int{nodes * nodes}, 18)
		empty[0], empty[2] = nodes, nodes*nodes
		full[0], full[1] = nodes, nodes
		if counts := impl.CountsOf(emptyGraph(nodes)); !slices.Equal(counts, empty) {
			t.Error(nodes, "nodes without arrows have the counts", counts)
		}
		if counts := impl.CountsOf(fullGraph(nodes)); !slices.Equal(counts, full) {
			t.Error(nodes, "nodes with all arrows have the counts", counts)
		}
	}
}

// keptCounts keeps the counts of graphs, as many pairs ask for the same ones.
type keptCounts map[string][]int

func (kept keptCounts) of(g [][]int) []int {
	text := textByHand(g)
	if kept[text] == nil {
		kept[text] = impl.CountsOf(g)
	}
	return kept[text]
}

func (kept keptCounts) checkProduct(t *testing.T, g, h [][]int) {
	t.Helper()
	product, ok := impl.TimesOf(g, h)
	counts, first, second := impl.CountsOf(product), kept.of(g), kept.of(h)
	if !ok || len(counts) != 18 {
		t.Fatal(g, "times", h, "is", product, "with the counts", counts)
	}
	for test, count := range counts {
		if count != first[test]*second[test] {
			t.Fatal(g, "times", h, "has the counts", counts, "not", first, "times", second)
		}
	}
}

func TestP49CountsOfProductsAreProducts(t *testing.T) {
	kept, all := keptCounts{}, allGraphs(3)
	for _, pair := range append(smallPairs(), productPairs()...) {
		kept.checkProduct(t, pair[0], pair[1])
	}
	for at := 0; at < len(all)*len(all); at += 61 {
		kept.checkProduct(t, all[at/len(all)], all[at%len(all)])
	}
}

// checkBeside asks of tests in one part for sums, and of tests in two for what both parts have.
func (kept keptCounts) checkBeside(t *testing.T, g, h [][]int) {
	t.Helper()
	both, ok := impl.BesideOf(g, h)
	counts, first, second := impl.CountsOf(both), kept.of(g), kept.of(h)
	if !ok || len(counts) != 18 {
		t.Fatal(g, "beside", h, "is", both, "with the counts", counts)
	}
	for test, count := range counts {
		want := first[test] + second[test]
		if parts, two := testsInTwoParts()[test]; two {
			want = counts[parts[0]] * counts[parts[1]]
		}
		if count != want {
			t.Fatal(g, "beside", h, "has the counts", counts, "of which at the test", test, "should be", want)
		}
	}
}

func TestP49CountsSideBySideAreSums(t *testing.T) {
	kept, all, mixed := keptCounts{}, allGraphs(3), mixedGraphs()
	for _, pair := range smallPairs() {
		kept.checkBeside(t, pair[0], pair[1])
	}
	for at := 0; at < len(all)*len(all); at += 61 {
		kept.checkBeside(t, all[at/len(all)], all[at%len(all)])
	}
	for _, g := range mixed {
		for _, h := range mixed {
			if len(g)+len(h) <= 9 {
				kept.checkBeside(t, g, h)
			}
		}
	}
}

// Only where no test in two parts is asked are all counts of both sums.
func TestTestsOfOnePart(t *testing.T) {
	for number := range 18 {
		_, two := testsInTwoParts()[number]
		if one := impl.OnePartOk(impl.TestAt(number)); one == two {
			t.Error("the test", number, "is in one part:", one)
		}
	}
	g := [][]int{{1}}
	counts := impl.CountsOf(g)
	both, _ := impl.BesideOf(g, g)
	for test, count := range impl.CountsOf(both) {
		if _, two := testsInTwoParts()[test]; two != (count != 2*counts[test]) {
			t.Error("both have at the test", test, count, "and one has", counts[test])
		}
	}
}

func checkSameCounts(t *testing.T, g, h [][]int, want bool) {
	t.Helper()
	if impl.SameCounts(g, h) != want || impl.SameCounts(h, g) != want {
		t.Fatal(g, "and", h, "have the same counts:", impl.SameCounts(g, h), impl.SameCounts(h, g), "not", want)
	}
}

func TestP50SmallGraphsAreToldByCounts(t *testing.T) {
	same := 0
	for _, g := range allGraphs(2) {
		for _, h := range allGraphs(2) {
			_, ok := impl.SameGraph(g, h)
			checkSameCounts(t, g, h, ok)
			if ok {
				same++
			}
		}
	}
	if same != 30 {
		t.Fatal("so many pairs are the same:", same)
	}
}

// Of more than 5 nodes no order is told by SameGraph, but they may be put in one all the same.
func TestP50SameGraphsHaveTheSameCounts(t *testing.T) {
	for _, g := range append(allGraphs(3), graphsOf4(661)...) {
		for _, order := range ordersOf(len(g)) {
			h := partByHand(g, order)
			if _, ok := impl.SameGraph(g, h); !ok {
				t.Fatal(g, "and", h)
			}
			checkSameCounts(t, g, h, true)
		}
	}
	for _, g := range append(graphsOf5(), largerGraphs()...) {
		for number := range uint64(3) {
			checkSameCounts(t, g, partByHand(g, mixedOrder(len(g), number)), true)
		}
	}
}

func TestSameCountsByHand(t *testing.T) {
	list := slices.Concat(allGraphs(2), graphsOf4(7001), mixedGraphs(), largerGraphs()[:60])
	for number := uint64(0); number < 512; number += 13 {
		list = append(list, graphNumbered(3, number))
	}
	kept := make([][]int, len(list))
	for at, g := range list {
		kept[at] = countsByHand(g)
	}
	for at, g := range list {
		for other := range at + 1 {
			checkSameCounts(t, g, list[other], slices.Equal(kept[at], kept[other]))
		}
	}
}

// Of graphs of 3 nodes and more some that are not the same have the same counts.
func TestSameCountsOfSomeGraphs(t *testing.T) {
	for _, one := range []struct {
		first, second string
		want          bool
	}{
		{"", "", true},
		{"", "0", false},
		{"", "/", false},
		{"0", "0/1", false},
		{"0/", "/1", true},
		{"1/", "/0", true},
		{"1/", "1/0", false},
		{"01/", "/01", true},
		{"01/", "0/0", false},
		{"1/2/", "/2/0", true},
		{"1/2/", "12//", true},
		{"1/2/", "2/2/", true},
		{"1/0/", "1/2/", false},
		{"1/2/0", "12/2/", true},
		{"1/0/2", "1/0/", false},
		{"1/0/3/2", "1/02/1/", true},
		{"1/2/3/0", "1/2/0/0", true},
		{"1/2/3/0", "1/2/0/", false},
		{"1/2/3/4/0", "12/3/4//0", true},
		{"1/2/3/4/5/0", "1/2/0/4/5/3", true},
		{"1/2/3/4/5/6/7/8/0", "1/2/0/4/5/3/7/8/6", true},
		{"1/2/3/4/5/6/7/8/0", "1/2/0/4/5/3/7/8/7", false},
		{"////////", "///////", false},
		{"////////8", "0////////", true},
	} {
		checkSameCounts(t, readGraph(t, one.first), readGraph(t, one.second), one.want)
	}
}

func checkOnePart(t *testing.T, g [][]int) bool {
	t.Helper()
	want := onePartByHand(g)
	if impl.OnePartOk(g) != want {
		t.Fatal(g, "is in one part:", !want)
	}
	if turned := impl.OnePartOk(impl.TurnedOf(g)); turned != want {
		t.Fatal(g, "is in one part:", want, "but turned round:", turned)
	}
	if both := impl.OnePartOk(impl.BothWays(g)); both != want {
		t.Fatal(g, "is in one part:", want, "but both ways:", both)
	}
	return want
}

func TestP51TurnedRoundItIsInOnePart(t *testing.T) {
	one, more := 0, 0
	for _, g := range slices.Concat(allGraphs(3), graphsOf4(5), graphsOf5(), mixedGraphs(), largerGraphs()) {
		if checkOnePart(t, g) {
			one++
		} else {
			more++
		}
	}
	for nodes := 5; nodes <= 9; nodes++ {
		for number := range uint64(100) {
			if checkOnePart(t, sparseGraph(nodes, number)) {
				one++
			} else {
				more++
			}
		}
	}
	if one < 500 || more < 500 {
		t.Fatal("so many are in one part, and so many in more:", one, more)
	}
}

func TestP51SideBySideAreNeverInOnePart(t *testing.T) {
	graphs := append(mixedGraphs(), largerGraphs()...)
	for _, pair := range smallPairs() {
		checkParted(t, pair[0], pair[1])
	}
	for _, g := range graphs {
		for _, h := range graphs {
			if len(g)+len(h) <= 9 {
				checkParted(t, g, h)
			}
		}
	}
}

func checkParted(t *testing.T, g, h [][]int) {
	t.Helper()
	both, ok := impl.BesideOf(g, h)
	if !ok || impl.OnePartOk(both) {
		t.Fatal(g, "beside", h, "are in one part")
	}
}

// A way from end to end has to be found, in whatever order the nodes are.
func TestPathsAreInOnePart(t *testing.T) {
	for nodes := 2; nodes <= 9; nodes++ {
		zigzag := emptyGraph(nodes)
		for node := 1; node < nodes; node++ {
			zigzag[node-node%2][node-1+node%2] = 1
		}
		for number := range uint64(200) {
			for _, g := range [][][]int{pathByHand(nodes), turnedByHand(pathByHand(nodes)), zigzag, turnedByHand(zigzag)} {
				g = partByHand(g, mixedOrder(nodes, number))
				if !impl.OnePartOk(g) {
					t.Fatal(g, "is not in one part")
				}
				from := int(number) % nodes
				for to := range nodes {
					g[from][to], g[to][from] = 0, 0
				}
				g[from][from] = 1
				if impl.OnePartOk(g) {
					t.Fatal(g, "is in one part, but the node", from, "is not joined")
				}
			}
		}
	}
}

func TestOnePartOfSomeGraphs(t *testing.T) {
	for text, want := range map[string]bool{
		"":                   true,
		"0":                  true,
		"/":                  false,
		"0/1":                false,
		"1/":                 true,
		"/0":                 true,
		"1/0":                true,
		"01/01":              true,
		"//":                 false,
		"1//":                false,
		"2//":                false,
		"/2/":                false,
		"1/0/2":              false,
		"1/2/":               true,
		"12//":               true,
		"/0/0":               true,
		"2/2/":               true,
		"//01":               true,
		"1//3/":              false,
		"2/3//":              false,
		"3/2//":              false,
		"3/2/3/":             true,
		"2/3/3/":             true,
		"////":               false,
		"1/0/3/4/2":          false,
		"4/3/4//3":           true,
		"4/3/4/2/":           true,
		"1//3//5/":           false,
		"////////":           false,
		"0/1/2/3/4/5/6/7/8":  false,
		"12345678////////":   true,
		"1234567////////":    false,
		"2345678////////":    false,
		"8/8/8/8/8/8/8/8/":   true,
		"1/2/3/4/5/6/7/8/":   true,
		"1/2/3/4/5/6/7//":    false,
		"8/0/1/2/3/4/5/6/":   true,
		"5/6/7/8//4/4/4/4":   true,
		"5/6/7/8//4/4/4/":    false,
		"1/2/3/0/5/6/7/8/4":  false,
		"1/2/0/4/5/3/7/8/6":  false,
		"1/2/0/4/5/3/7/8/56": false,
		"1/2/0/4/5/3/2/8/56": true,
	} {
		if one := impl.OnePartOk(readGraph(t, text)); one != want {
			t.Errorf("%q is in one part: %v", text, one)
		}
	}
}

func checkApart(t *testing.T, g, h [][]int) (int, bool) {
	t.Helper()
	first, ok := impl.FirstApart(g, h)
	if want, told := firstApartByHand(g, h); first != want || ok != told {
		t.Fatal(g, "and", h, "are told apart by", first, ok, "not", want, told)
	}
	if again, told := impl.FirstApart(h, g); again != first || told != ok {
		t.Fatal(g, "and", h, "are told apart by", first, ok, "but exchanged by", again, told)
	}
	if ok == impl.SameCounts(g, h) {
		t.Fatal(g, "and", h, "are told apart by", first, ok, "but have the same counts:", ok)
	}
	if ok && impl.CountOf(impl.TestAt(first), g) == impl.CountOf(impl.TestAt(first), h) {
		t.Fatal("from the test", first, "there are as many maps to", g, "as to", h)
	}
	for test := range first {
		if impl.CountOf(impl.TestAt(test), g) != impl.CountOf(impl.TestAt(test), h) {
			t.Fatal(g, "and", h, "are told apart by", first, "but", test, "comes before it")
		}
	}
	return first, ok
}

func TestP52WhatIsToldApartIsToldByATest(t *testing.T) {
	for _, g := range allGraphs(2) {
		for _, h := range allGraphs(2) {
			checkApart(t, g, h)
		}
		for number := uint64(0); number < 512; number += 3 {
			checkApart(t, g, graphNumbered(3, number))
		}
	}
	for number := range uint64(1500) {
		checkApart(t, graphNumbered(3, number*7%512), graphNumbered(3, number*61%509))
	}
	for nodes := 4; nodes <= 9; nodes++ {
		for number := range uint64(60) {
			g, h := sparseGraph(nodes, number), sparseGraph(nodes, number+1)
			checkApart(t, g, h)
			checkApart(t, g, partByHand(g, mixedOrder(nodes, number)))
			h = copyOf(g)
			h[number%uint64(nodes)][0] = 1 - h[number%uint64(nodes)][0]
			checkApart(t, g, h)
		}
	}
}

// loopedGraphs are all graphs of at most 2 nodes that have an arrow from a node to itself, and some of 3 and 4.
func loopedGraphs() [][][]int {
	graphs := append(allGraphs(2), loopNode(), fullGraph(3), besideByHand(loopNode(), ringByHand(2)), besideByHand(loopNode(), emptyGraph(3)))
	for number := range uint64(8) {
		graphs = append(graphs, mixedGraph(3, number), mixedGraph(4, number))
	}
	return slices.DeleteFunc(graphs, func(g [][]int) bool { return !hasLoop(g) })
}

func checkApartTimes(t *testing.T, g, h, k [][]int) {
	t.Helper()
	first, ok := impl.FirstApart(g, h)
	one, oneOk := impl.TimesOf(g, k)
	other, otherOk := impl.TimesOf(h, k)
	if !oneOk || !otherOk {
		t.Fatal(g, h, k)
	}
	if again, told := impl.FirstApart(one, other); again != first || told != ok {
		t.Fatal(g, "and", h, "are told apart by", first, ok, "but times", k, "by", again, told)
	}
}

func TestP52ProductsAreToldApartByTheSameTest(t *testing.T) {
	small, looped := allGraphs(2), loopedGraphs()
	for _, k := range looped {
		for _, g := range small {
			for _, h := range small {
				checkApartTimes(t, g, h, k)
			}
		}
		if len(k) > 3 {
			continue
		}
		for number := range uint64(60) {
			checkApartTimes(t, graphNumbered(3, number*17%512), graphNumbered(3, number*29%511), k)
			checkApartTimes(t, graphNumbered(3, number*17%512), small[number%18], k)
		}
	}
	for number := range uint64(60) {
		checkApartTimes(t, sparseGraph(9, number), sparseGraph(9, number+1), loopNode())
		checkApartTimes(t, sparseGraph(4, number), sparseGraph(4, number+1), graphNumbered(2, 1+number%2*12))
	}
}

// Without an arrow from a node to itself both products may be the same.
func TestProductsWithoutSuchAnArrowMayNotBeToldApart(t *testing.T) {
	g, h := readGraph(t, "1/"), readGraph(t, "1/0")
	if first, ok := impl.FirstApart(g, h); first != 4 || !ok {
		t.Fatal(first, ok)
	}
	one, _ := impl.TimesOf(g, plainNode())
	other, _ := impl.TimesOf(h, plainNode())
	if first, ok := impl.FirstApart(one, other); first != -1 || ok || !impl.SameCounts(one, other) {
		t.Fatal(first, ok)
	}
}

// Two graphs of at most 2 nodes that have the same product with a third one, which has an arrow to itself, are the same.
func TestFactorsOfTheSameProductAreTheSame(t *testing.T) {
	small := allGraphs(2)
	for _, k := range loopedGraphs() {
		for _, g := range small {
			for _, h := range small {
				if len(g)*len(k) > 5 || len(h)*len(k) > 5 {
					continue
				}
				one, _ := impl.TimesOf(g, k)
				other, _ := impl.TimesOf(h, k)
				_, same := impl.SameGraph(one, other)
				if _, ok := impl.SameGraph(g, h); ok != same {
					t.Fatal(g, "and", h, "are the same:", ok, "but times", k, same)
				}
			}
		}
	}
}

// Each test that can be the first one is here: what all others count is told by those before them.
func TestFirstApartOfSomeGraphs(t *testing.T) {
	seen := map[int]bool{}
	for _, one := range []struct {
		first, second string
		want          int
	}{
		{"", "", -1},
		{"", "/", 0},
		{"0", "0/1", 0},
		{"////////", "///////", 0},
		{"", "0", 1},
		{"/", "0/", 1},
		{"1/0", "0/1", 1},
		{"02//2", "02//1", 1},
		{"////////", "////////8", 1},
		{"0/", "/1", -1},
		{"1/", "/0", -1},
		{"/", "1/", 4},
		{"1/", "1/0", 4},
		{"////////", "///////0/", 4},
		{"01/", "1/1", 5},
		{"01/", "0/0", 5},
		{"0/0/", "0/2/", 7},
		{"//////7//78", "//////8//78", 7},
		{"1/0/", "1/2/", 8},
		{"1/0/3/2", "1/2/3/0", 8},
		{"01/0/3/1", "01//03/2", 9},
		{"01/1/3/", "02/1//1", 13},
		{"013/014/2/4/3/01", "013/124/2/04/15/", 17},
		{"013/014/2/4/3/01///", "013/124/2/04/15////", 17},
		{"1/2/", "12//", -1},
		{"1/2/0", "12/2/", -1},
		{"1/2/3/4/5/6/7/8/0", "1/2/0/4/5/3/7/8/6", -1},
		{"1/2/3/4/5/6/7/8/0", "1/2/3/4/5/6/7/8/7", 8},
	} {
		first, ok := checkApart(t, readGraph(t, one.first), readGraph(t, one.second))
		if first != one.want || ok != (one.want >= 0) {
			t.Errorf("%q and %q are told apart by %d %v, not %d", one.first, one.second, first, ok, one.want)
		}
		seen[first] = true
	}
	for _, first := range []int{-1, 0, 1, 4, 5, 7, 8, 9, 13, 17} {
		if !seen[first] {
			t.Error("no graphs are told apart by", first)
		}
	}
}

func TestBadGraphsHaveNoCounts(t *testing.T) {
	good := [][][]int{plainNode(), loopNode(), emptyGraph(2), ringByHand(3), fullGraph(9)}
	for name, bad := range badGraphs() {
		if counts := impl.CountsOf(bad); len(counts) != 0 {
			t.Error(name, "CountsOf", counts)
		}
		if impl.OnePartOk(bad) {
			t.Error(name, "OnePartOk")
		}
		for _, g := range append(good, bad) {
			checkNotCompared(t, name, g, bad)
			checkNotCompared(t, name, bad, g)
		}
		for other, g := range badGraphs() {
			checkNotCompared(t, name+" and "+other, bad, g)
		}
	}
}

func checkNotCompared(t *testing.T, name string, g, h [][]int) {
	t.Helper()
	if impl.SameCounts(g, h) {
		t.Error(name, "SameCounts", g, h)
	}
	if first, ok := impl.FirstApart(g, h); first != -1 || ok {
		t.Error(name, "FirstApart", g, h, first, ok)
	}
}

// The order in which goroutines send must not be seen, nor one call in another one.
func TestCountsAreAlwaysTheSame(t *testing.T) {
	defer runtime.GOMAXPROCS(runtime.GOMAXPROCS(0))
	graphs := append(largerGraphs()[:40], mixedGraphs()...)
	want := make([][]int, len(graphs))
	for at, g := range graphs {
		want[at] = countsByHand(g)
	}
	for _, processors := range []int{1, 2, 8} {
		runtime.GOMAXPROCS(processors)
		var joined sync.WaitGroup
		for range 8 {
			joined.Go(func() {
				for range 5 {
					for at, g := range graphs {
						if counts := impl.CountsOf(g); !slices.Equal(counts, want[at]) {
							t.Error(g, "has the counts", counts, "not", want[at])
						}
					}
				}
			})
		}
		joined.Wait()
	}
}

func TestComparedGraphsAreAlwaysToldApartTheSame(t *testing.T) {
	g, h := readGraph(t, "013/014/2/4/3/01"), readGraph(t, "013/124/2/04/15/")
	for range 500 {
		first, ok := impl.FirstApart(g, h)
		_, same := impl.FirstApart(g, g)
		if first != 17 || !ok || same || impl.SameCounts(g, h) || !impl.SameCounts(g, g) {
			t.Fatal(first, ok, same)
		}
	}
}

// No goroutine stays behind. Those that have just been joined may need a moment to end.
func TestGoroutinesOfCountsEnd(t *testing.T) {
	before := runtime.NumGoroutine()
	for range 200 {
		impl.CountsOf(fullGraph(9))
		impl.SameCounts(fullGraph(9), emptyGraph(9))
		impl.FirstApart(fullGraph(9), emptyGraph(9))
		impl.CountsOf(emptyGraph(10))
	}
	for range 1000000 {
		if runtime.NumGoroutine() <= before {
			return
		}
		runtime.Gosched()
	}
	t.Error("there were", before, "goroutines, and are", runtime.NumGoroutine())
}

func TestArgumentsOfCountsAreNotWrittenTo(t *testing.T) {
	given := [][][]int{plainNode(), loopNode(), emptyGraph(6), fullGraph(3), ringByHand(4), pathByHand(9), sparseGraph(7, 1), mixedGraph(9, 1), {{0, 2}, {0, 1}}, {{0, 1}, {0}}, emptyGraph(10)}
	for _, first := range given {
		for _, second := range given {
			g, h := roomyRows(first), roomyRows(second)
			impl.CountsOf(g)
			impl.OnePartOk(g)
			impl.SameCounts(g, h)
			impl.FirstApart(g, h)
			impl.SameCounts(g, g)
			impl.FirstApart(g, g)
			if !unchangedRows(g, first) || !unchangedRows(h, second) {
				t.Fatal("written to", first, second, "now", g, h)
			}
		}
	}
}

func TestResultsOfCountsAreNewMemory(t *testing.T) {
	for number := range 18 {
		checkNewMemory(t, "TestAt", plainNode(), loopNode(), nil, func(g, h [][]int, l []int) [][]int { return impl.TestAt(number) })
	}
	for nodes := 1; nodes <= 9; nodes++ {
		for _, g := range [][][]int{emptyGraph(nodes), fullGraph(nodes), pathByHand(nodes), mixedGraph(nodes, 3)} {
			checkNewMemory(t, "CountsOf", g, g, nil, func(g, h [][]int, l []int) [][]int { return [][]int{impl.CountsOf(g)} })
		}
	}
}

// A graph may have rows that are one and the same slice, and be both arguments at once.
func TestCountsMayShareRows(t *testing.T) {
	row, noughts := []int{0, 1}, []int{0, 0, 0}
	g, h := [][]int{row, row}, [][]int{noughts, noughts, noughts}
	if counts := impl.CountsOf(g); !slices.Equal(counts, countsByHand([][]int{{0, 1}, {0, 1}})) {
		t.Fatal(counts)
	}
	first, ok := impl.FirstApart(g, h)
	if first != 0 || !ok || !impl.OnePartOk(g) || impl.OnePartOk(h) || !impl.SameCounts(g, g) || impl.SameCounts(g, h) {
		t.Fatal(first, ok)
	}
	if first, ok = impl.FirstApart(h, h); first != -1 || ok || !slices.Equal(row, []int{0, 1}) || !slices.Equal(noughts, []int{0, 0, 0}) {
		t.Fatal(first, ok, row, noughts)
	}
}
