package tests

import (
	"math"
	"slices"
	"testing"

	"loop.example/graphmaps/impl"
)

func plainNode() [][]int { return [][]int{{0}} }

func loopNode() [][]int { return [][]int{{1}} }

// rowsOf are all rows of so many numbers below another one, in the order of rows of numbers.
func rowsOf(length, below int) [][]int {
	rows := [][]int{{}}
	for range length {
		var longer [][]int
		for _, row := range rows {
			for number := range below {
				longer = append(longer, append(slices.Clone(row), number))
			}
		}
		rows = longer
	}
	return rows
}

// rowsBetween keeps the rows for two numbers of nodes, as many graphs ask for the same ones.
type rowsBetween map[[2]int][][]int

func (kept rowsBetween) rows(g, h [][]int) [][]int {
	sizes := [2]int{len(g), len(h)}
	if kept[sizes] == nil {
		kept[sizes] = rowsOf(len(g), len(h))
	}
	return kept[sizes]
}

// someOf are at most so many of the rows, spread over all of them.
func someOf(rows [][]int, many int) [][]int {
	var some [][]int
	for at := 0; at < len(rows); at += 1 + len(rows)/many {
		some = append(some, rows[at])
	}
	return some
}

// mapByHand takes a row of as many nodes as it should have, all of which are there.
func mapByHand(g, h [][]int, row []int) bool {
	for from := range g {
		for to := range g {
			if g[from][to] > h[row[from]][row[to]] {
				return false
			}
		}
	}
	return true
}

func mapsByHand(g, h [][]int, rows [][]int) [][]int {
	var maps [][]int
	for _, row := range rows {
		if mapByHand(g, h, row) {
			maps = append(maps, row)
		}
	}
	return maps
}

func fewByHand(g, h [][]int) bool {
	return math.Pow(float64(len(h)), float64(len(g))) <= 7000
}

// fewPairs are pairs of graphs of all sizes for which there are at most MaxTries rows.
func fewPairs() [][2][][]int {
	var pairs [][2][][]int
	for _, g := range mixedGraphs() {
		for _, h := range mixedGraphs() {
			if fewByHand(g, h) {
				pairs = append(pairs, [2][][]int{g, h})
			}
		}
	}
	return pairs
}

// mostNodes tells for each number of nodes of a second graph how many a first one has at most if both are few: 2^9, 3^8, 4^6, 5^5, 6^4, 7^4, 8^4 and 9^4 are at most 7000, and 3^9, 4^7, 5^6, 6^5 and 7^5 are more.
func mostNodes() map[int]int {
	return map[int]int{1: 9, 2: 9, 3: 8, 4: 6, 5: 5, 6: 4, 7: 4, 8: 4, 9: 4}
}

func powerOf(base, times int) int {
	product := 1
	for range times {
		product *= base
	}
	return product
}

func TestFewOkIsBoundedByMaxTries(t *testing.T) {
	if impl.MaxTries != 7000 {
		t.Fatal("MaxTries is", impl.MaxTries)
	}
	for second, most := range mostNodes() {
		for first := 1; first <= 9; first++ {
			for _, g := range [][][]int{emptyGraph(first), fullGraph(first), mixedGraph(first, 1)} {
				for _, h := range [][][]int{emptyGraph(second), fullGraph(second), mixedGraph(second, 2)} {
					if impl.FewOk(g, h) != (first <= most) {
						t.Fatal(first, "nodes to", second, "of", g, h)
					}
				}
			}
		}
	}
}

// Here each row is a map, so that all of them are told up to the bound, and none beyond it.
func TestMapsAreToldAsFarAsTheyAreFew(t *testing.T) {
	for second, most := range mostNodes() {
		for first := 1; first <= 9; first++ {
			g, h := fullGraph(first), fullGraph(second)
			list, count, below := impl.MapsOf(g, h), impl.CountOf(g, h), impl.BelowOk(g, h)
			if first > most {
				if len(list) != 0 || count != -1 || below {
					t.Fatal(first, "nodes to", second, "are not few:", len(list), count, below)
				}
				continue
			}
			if want := powerOf(second, first); len(list) != want || count != want || !below {
				t.Fatal(first, "nodes to", second, "are few:", len(list), count, below)
			}
		}
	}
}

// A map may be told although not all of them are few.
func TestMapOkOfGraphsThatAreNotFew(t *testing.T) {
	for nodes := 6; nodes <= 9; nodes++ {
		self := numbersFrom(0, nodes)
		for _, g := range [][][]int{emptyGraph(nodes), fullGraph(nodes), mixedGraph(nodes, 1)} {
			if impl.FewOk(g, g) || !impl.MapOk(g, g, self) {
				t.Fatal(g)
			}
			if x := impl.BehindOf(g, g, g, self, self); !slices.Equal(x, self) {
				t.Fatal(g, x)
			}
		}
		if impl.MapOk(fullGraph(nodes), emptyGraph(nodes), self) {
			t.Fatal(nodes, "nodes with all arrows are led to nodes without any")
		}
	}
}

// checkMapOk takes a row of the right nodes, which is a map or not.
func checkMapOk(t *testing.T, g, h [][]int, row []int) {
	t.Helper()
	if want := mapByHand(g, h, row); impl.MapOk(g, h, row) != want {
		t.Fatal(g, h, row, "is a map:", want)
	}
}

func TestMapOkOfAllRows(t *testing.T) {
	kept := rowsBetween{}
	for _, g := range allGraphs(3) {
		for _, h := range allGraphs(2) {
			for _, row := range kept.rows(g, h) {
				checkMapOk(t, g, h, row)
			}
			for _, row := range kept.rows(h, g) {
				checkMapOk(t, h, g, row)
			}
		}
	}
	for _, pair := range fewPairs() {
		for _, row := range someOf(kept.rows(pair[0], pair[1]), 100) {
			checkMapOk(t, pair[0], pair[1], row)
		}
	}
}

// badRows are no rows that tell for so many nodes nodes of a graph of so many ones.
func badRows(length, below int) [][]int {
	good := make([]int, length)
	bad := [][]int{good[:length-1], append(slices.Clone(good), 0), append(slices.Clone(good), below), append(slices.Clone(good), good...)}
	if length > 1 {
		bad = append(bad, nil, []int{}, []int{0})
	}
	for at := range length {
		for _, number := range []int{-1, below, below + 1, -below, 256 * below, 1 << 32, math.MinInt, math.MaxInt} {
			row := slices.Clone(good)
			row[at] = number
			bad = append(bad, row)
		}
	}
	return bad
}

func TestBadRowsAreNoMaps(t *testing.T) {
	for first := 1; first <= 9; first++ {
		for second := 1; second <= 9; second++ {
			g, h := emptyGraph(first), fullGraph(second)
			good := make([]int, first)
			if !impl.MapOk(g, h, good) || len(impl.BehindOf(g, h, h, good, make([]int, second))) != first {
				t.Fatal(first, second)
			}
			for _, row := range badRows(first, second) {
				if impl.MapOk(g, h, row) {
					t.Fatal(first, second, row)
				}
				if x := impl.BehindOf(g, h, h, row, make([]int, second)); len(x) != 0 {
					t.Fatal("first one", first, second, row, x)
				}
				if x := impl.BehindOf(g, g, h, numbersFrom(0, first), row); len(x) != 0 {
					t.Fatal("second one", first, second, row, x)
				}
			}
		}
	}
}

// One node without arrows is below all, and all are below one with an arrow to itself: so nothing but the bad graph keeps a row from being a map.
func TestBadGraphsHaveNoMaps(t *testing.T) {
	below, above := plainNode(), loopNode()
	for name, bad := range badGraphs() {
		for _, two := range [][2][][]int{{bad, above}, {below, bad}, {bad, bad}} {
			g, h := two[0], two[1]
			if impl.FewOk(g, h) || impl.BelowOk(g, h) || impl.SameLevel(g, h) {
				t.Error(name, impl.FewOk(g, h), impl.BelowOk(g, h), impl.SameLevel(g, h))
			}
			if list, count := impl.MapsOf(g, h), impl.CountOf(g, h); len(list) != 0 || count != -1 {
				t.Error(name, list, count)
			}
			if impl.MapOk(g, h, make([]int, len(g))) || impl.MapOk(g, h, []int{0}) || impl.MapOk(g, h, nil) {
				t.Error(name, "MapOk")
			}
		}
		one, rows := []int{0}, make([]int, len(bad))
		for _, x := range [][]int{
			impl.BehindOf(bad, above, above, rows, one),
			impl.BehindOf(below, bad, above, one, rows),
			impl.BehindOf(below, below, bad, one, one),
			impl.BehindOf(bad, bad, bad, rows, rows),
		} {
			if len(x) != 0 {
				t.Error(name, "BehindOf", x)
			}
		}
	}
}

func checkTurnedMap(t *testing.T, g, h [][]int, row []int) {
	t.Helper()
	ok := impl.MapOk(g, h, row)
	if impl.MapOk(impl.TurnedOf(g), impl.TurnedOf(h), row) != ok {
		t.Fatal("turned round", g, h, row, ok)
	}
	if ok && (!impl.MapOk(g, fullGraph(len(h)), row) || !impl.MapOk(emptyGraph(len(g)), h, row)) {
		t.Fatal("with all arrows, or without any", g, h, row)
	}
}

func TestP5TurnedMapsAreMaps(t *testing.T) {
	kept := rowsBetween{}
	for _, g := range allGraphs(2) {
		for _, h := range allGraphs(3) {
			for _, row := range kept.rows(g, h) {
				checkTurnedMap(t, g, h, row)
			}
			for _, row := range kept.rows(h, g) {
				checkTurnedMap(t, h, g, row)
			}
		}
	}
	for _, pair := range fewPairs() {
		for _, row := range someOf(kept.rows(pair[0], pair[1]), 100) {
			checkTurnedMap(t, pair[0], pair[1], row)
		}
	}
}

// checkMaps takes all rows from the nodes of the one graph to those of the other one.
func checkMaps(t *testing.T, g, h [][]int, rows [][]int) {
	t.Helper()
	want := mapsByHand(g, h, rows)
	list := impl.MapsOf(g, h)
	if !sameRows(list, want) {
		t.Fatal("from", g, "to", h, "got", list, "want", want)
	}
	if count := impl.CountOf(g, h); count != len(want) {
		t.Fatal("from", g, "to", h, "there are", len(want), "not", count)
	}
	if impl.BelowOk(g, h) != (len(want) > 0) {
		t.Fatal(g, h, "below:", len(want) > 0)
	}
	for at, row := range list {
		if !impl.MapOk(g, h, row) || at > 0 && slices.Compare(list[at-1], row) >= 0 {
			t.Fatal(g, h, list, "at", at)
		}
	}
}

func TestP6AllMapsAreTold(t *testing.T) {
	kept := rowsBetween{}
	all := allGraphs(3)
	for _, g := range all {
		for _, h := range all {
			checkMaps(t, g, h, kept.rows(g, h))
		}
	}
}

func TestP6OfLargerGraphs(t *testing.T) {
	kept := rowsBetween{}
	for _, pair := range fewPairs() {
		checkMaps(t, pair[0], pair[1], kept.rows(pair[0], pair[1]))
	}
}

func TestP6OfAGraphAndItself(t *testing.T) {
	for _, g := range manyGraphs() {
		list, self := impl.MapsOf(g, g), numbersFrom(0, len(g))
		told := slices.ContainsFunc(list, func(row []int) bool { return slices.Equal(row, self) })
		if told != (len(g) <= 5) {
			t.Fatal(g, "is led to itself:", told)
		}
	}
}

func TestMapsAreInTheOrderOfRows(t *testing.T) {
	loopAndEdge := [][]int{{1, 0, 0}, {0, 0, 1}, {0, 1, 0}}
	want := [][]int{{0, 0}, {1, 2}, {2, 1}}
	if list := impl.MapsOf([][]int{{0, 1}, {0, 0}}, loopAndEdge); !sameRows(list, want) {
		t.Fatal(list)
	}
	want = [][]int{{0, 0}, {0, 1}, {1, 0}, {1, 1}}
	if list := impl.MapsOf(emptyGraph(2), [][]int{{0, 1}, {0, 0}}); !sameRows(list, want) {
		t.Fatal(list)
	}
}

func TestMapsOfGraphsWithoutArrows(t *testing.T) {
	for first := 1; first <= 9; first++ {
		for second := 1; second <= 9; second++ {
			if g, h := emptyGraph(first), emptyGraph(second); fewByHand(g, h) {
				if count := impl.CountOf(g, h); count != powerOf(second, first) || !impl.BelowOk(g, h) {
					t.Fatal(first, second, count)
				}
				g[first-1][0] = 1
				if count := impl.CountOf(g, h); count != 0 || impl.BelowOk(g, h) || len(impl.MapsOf(g, h)) != 0 {
					t.Fatal("one arrow", first, second, count)
				}
			}
		}
	}
}

// A node with an arrow to itself is led just to such nodes.
func TestMapsOfNodesWithArrowsToThemselves(t *testing.T) {
	for _, h := range manyGraphs() {
		var want [][]int
		for node := range h {
			if h[node][node] == 1 {
				want = append(want, []int{node})
			}
		}
		if list := impl.MapsOf(loopNode(), h); !sameRows(list, want) || impl.CountOf(loopNode(), h) != len(want) {
			t.Fatal(h, list)
		}
	}
	if impl.BelowOk(loopNode(), plainNode()) || !impl.BelowOk(plainNode(), loopNode()) || impl.SameLevel(plainNode(), loopNode()) {
		t.Fatal("one node")
	}
	if !impl.SameLevel(plainNode(), plainNode()) || !impl.SameLevel(loopNode(), loopNode()) {
		t.Fatal("one node and itself")
	}
}

func checkCountBeside(t *testing.T, g, x, h [][]int) {
	t.Helper()
	both, ok := impl.BesideOf(g, x)
	if !ok {
		return
	}
	want := -1
	if fewByHand(both, h) {
		want = impl.CountOf(g, h) * impl.CountOf(x, h)
	}
	if count := impl.CountOf(both, h); count != want {
		t.Fatal("from", g, "beside", x, "to", h, "got", count, "want", want)
	}
}

func TestP7FromSideBySideAsManyAsBothTogether(t *testing.T) {
	small := allGraphs(2)
	for _, g := range small {
		for _, x := range small {
			for _, h := range allGraphs(2) {
				checkCountBeside(t, g, x, h)
			}
			for _, h := range mixedGraphs() {
				checkCountBeside(t, g, x, h)
			}
		}
	}
	for number := range uint64(4) {
		for first := 1; first <= 8; first++ {
			g, x := mixedGraph(first, number), mixedGraph(9-first, number+1)
			checkCountBeside(t, g, x, fullGraph(2))
			checkCountBeside(t, g, x, mixedGraph(2, number))
			checkCountBeside(t, g, x, mixedGraph(3, number))
		}
	}
}

func TestP7FromOneNodeAsManyAsNodes(t *testing.T) {
	for _, h := range manyGraphs() {
		if count := impl.CountOf(plainNode(), h); count != len(h) {
			t.Fatal(h, count)
		}
		if list := impl.MapsOf(plainNode(), h); len(list) != len(h) || list[len(h)-1][0] != len(h)-1 {
			t.Fatal(h, list)
		}
	}
}

// belowTable tells of each two graphs of a list whether the first one is below the second one.
func belowTable(list [][][]int) [][]bool {
	table := make([][]bool, len(list))
	for i, g := range list {
		table[i] = make([]bool, len(list))
		for k, h := range list {
			table[i][k] = impl.BelowOk(g, h)
		}
	}
	return table
}

// checkBelowIsAnOrder leaves out what is not few, of which below is never told.
func checkBelowIsAnOrder(t *testing.T, list [][][]int) {
	t.Helper()
	below := belowTable(list)
	for i, g := range list {
		if below[i][i] != (len(g) <= 5) {
			t.Fatal(g, "is below itself:", below[i][i])
		}
		if !impl.BelowOk(plainNode(), g) || !impl.BelowOk(g, loopNode()) {
			t.Fatal(g, "is above one node, and below one with an arrow to itself")
		}
		for k, h := range list {
			if !below[i][k] {
				continue
			}
			for j, x := range list {
				if below[k][j] && !below[i][j] && fewByHand(g, x) {
					t.Fatal(g, "is below", h, "and this below", x)
				}
			}
		}
	}
}

func TestP8BelowIsAnOrder(t *testing.T) {
	checkBelowIsAnOrder(t, allGraphs(3))
}

func TestP8OfLargerGraphs(t *testing.T) {
	checkBelowIsAnOrder(t, append(mixedGraphs(), allGraphs(2)...))
}

func TestBelowOkOfRings(t *testing.T) {
	for first := 1; first <= 5; first++ {
		for second := 1; second <= 5; second++ {
			if impl.BelowOk(ringByHand(first), ringByHand(second)) != (first%second == 0) {
				t.Fatal(first, second)
			}
		}
	}
}

func ringByHand(nodes int) [][]int {
	ring := emptyGraph(nodes)
	for node := range ring {
		ring[node][(node+1)%nodes] = 1
	}
	return ring
}

// checkBehind takes any two rows of the right nodes, whether they are maps or not.
func checkBehind(t *testing.T, g, h, k [][]int, f, e []int) {
	t.Helper()
	x := impl.BehindOf(g, h, k, f, e)
	if !mapByHand(g, h, f) || !mapByHand(h, k, e) {
		if len(x) != 0 {
			t.Fatal(g, h, k, f, e, "are no maps, but there is", x)
		}
		return
	}
	if len(x) != len(g) || !impl.MapOk(g, k, x) {
		t.Fatal(g, h, k, f, e, x)
	}
	for node := range g {
		if x[node] != e[f[node]] {
			t.Fatal(g, h, k, f, e, x)
		}
	}
}

func TestP9MapsBehindMapsAreMaps(t *testing.T) {
	kept := rowsBetween{}
	small := allGraphs(2)
	for _, g := range small {
		for _, h := range small {
			for _, k := range small {
				for _, f := range kept.rows(g, h) {
					for _, e := range kept.rows(h, k) {
						checkBehind(t, g, h, k, f, e)
					}
				}
			}
		}
	}
}

func TestP9OfLargerGraphs(t *testing.T) {
	kept := rowsBetween{}
	for _, pair := range fewPairs() {
		g, h := pair[0], pair[1]
		for _, f := range someOf(mapsByHand(g, h, kept.rows(g, h)), 4) {
			for _, k := range [][][]int{h, loopNode(), fullGraph(9), mixedGraph(4, 1)} {
				if !fewByHand(h, k) {
					continue
				}
				for _, e := range someOf(kept.rows(h, k), 20) {
					checkBehind(t, g, h, k, f, e)
				}
			}
		}
	}
}

func TestP9WithTheMapToItselfItIsTheMap(t *testing.T) {
	kept := rowsBetween{}
	for _, pair := range fewPairs() {
		g, h := pair[0], pair[1]
		for _, f := range someOf(mapsByHand(g, h, kept.rows(g, h)), 20) {
			if x := impl.BehindOf(g, g, h, numbersFrom(0, len(g)), f); !slices.Equal(x, f) {
				t.Fatal(g, h, f, x)
			}
			if x := impl.BehindOf(g, h, h, f, numbersFrom(0, len(h))); !slices.Equal(x, f) {
				t.Fatal(g, h, f, x)
			}
		}
	}
}

func TestP66SmallGraphsAreFew(t *testing.T) {
	all := allGraphs(3)
	for number := range uint64(8) {
		all = append(all, mixedGraph(4, number))
	}
	all = append(all, emptyGraph(4), fullGraph(4), ringByHand(4))
	for _, g := range all {
		for _, h := range all {
			if !impl.FewOk(g, h) {
				t.Fatal(g, h)
			}
		}
	}
}

func checkLevels(t *testing.T, first, second [][]int) {
	t.Helper()
	same := impl.SameLevel(first, second)
	if want := impl.BelowOk(first, second) && impl.BelowOk(second, first); same != want {
		t.Fatal(first, second, "are on one level:", want)
	}
	if impl.SameLevel(second, first) != same {
		t.Fatal("exchanged", first, second, same)
	}
	if impl.SameLevel(impl.TurnedOf(first), impl.TurnedOf(second)) != same {
		t.Fatal("turned round", first, second, same)
	}
}

func TestP67TurnedGraphsAreOnTurnedLevels(t *testing.T) {
	for _, g := range append(allGraphs(2), mixedGraphs()...) {
		for _, h := range manyGraphs() {
			checkLevels(t, g, h)
		}
	}
}

func TestSameLevelOfSomeGraphs(t *testing.T) {
	edge := [][]int{{0, 1}, {1, 0}}
	loopAndMore := [][]int{{0, 1, 0}, {0, 1, 1}, {0, 0, 0}}
	for _, two := range []struct {
		g, h [][]int
		same bool
	}{
		{edge, ringByHand(4), false},
		{edge, [][]int{{0, 1, 0, 1}, {1, 0, 1, 0}, {0, 1, 0, 1}, {1, 0, 1, 0}}, true},
		{loopNode(), loopAndMore, true},
		{emptyGraph(1), emptyGraph(5), true},
		{emptyGraph(4), emptyGraph(6), true},
		{emptyGraph(5), emptyGraph(6), false}, // 6^5 rows are not few
		{fullGraph(4), fullGraph(9), false},   // 9^4 rows are few, but 4^9 are not
		{fullGraph(9), fullGraph(4), false},
		{fullGraph(9), fullGraph(1), true},
		{fullGraph(5), fullGraph(5), true},
		{fullGraph(6), fullGraph(6), false},
	} {
		if impl.SameLevel(two.g, two.h) != two.same {
			t.Error(two.g, two.h, "are on one level:", two.same)
		}
	}
}

func TestArgumentsOfMapsAreNotWrittenTo(t *testing.T) {
	given := [][][]int{mixedGraph(3, 1), emptyGraph(3), fullGraph(3), mixedGraph(4, 2), plainNode(), {{0, 2}, {0, 1}}, {{0, 1}, {0}}}
	for _, first := range given {
		for _, second := range given {
			for _, list := range [][]int{{0, 0, 0}, {0, 1, 2}, {2, 1, 7}, {0}} {
				g, h, f, e := roomyRows(first), roomyRows(second), roomy(list), roomy(list)
				impl.FewOk(g, h)
				impl.MapOk(g, h, f)
				impl.MapsOf(g, h)
				impl.CountOf(g, h)
				impl.BelowOk(g, h)
				impl.SameLevel(g, h)
				impl.BehindOf(g, h, g, f, e)
				impl.BehindOf(g, g, h, f, f)
				if !unchangedRows(g, first) || !unchangedRows(h, second) || !unchangedRow(f, list) || !unchangedRow(e, list) {
					t.Fatal("written to", first, second, list, "now", g, h, f, e)
				}
			}
		}
	}
}

func TestResultsOfMapsAreNewMemory(t *testing.T) {
	for nodes := 1; nodes <= 4; nodes++ {
		first, self := emptyGraph(nodes), numbersFrom(0, nodes)
		for _, second := range [][][]int{emptyGraph(nodes), fullGraph(nodes), fullGraph(9), loopNode()} {
			checkNewMemory(t, "MapsOf", first, second, self, func(g, h [][]int, l []int) [][]int {
				return impl.MapsOf(g, h)
			})
		}
		checkNewMemory(t, "BehindOf", first, fullGraph(nodes), self, func(g, h [][]int, l []int) [][]int {
			return [][]int{impl.BehindOf(g, g, h, l, l)}
		})
	}
}

// One row may be both maps, and one graph all three.
func TestMapsMayShareArguments(t *testing.T) {
	ring, next := ringByHand(3), []int{1, 2, 0}
	if x := impl.BehindOf(ring, ring, ring, next, next); !slices.Equal(x, []int{2, 0, 1}) || !slices.Equal(next, []int{1, 2, 0}) {
		t.Fatal(x, next)
	}
	row := []int{1, 1}
	if g := [][]int{row, row}; !impl.MapOk(g, g, row) || impl.CountOf(g, g) != 4 || !impl.SameLevel(g, g) {
		t.Fatal(g)
	}
}
