package tests

import (
	"math"
	"slices"
	"testing"

	"loop.example/graphmaps/impl"
)

// maxWalk is how many nodes a walk has at most.
const maxWalk = 13

// ledOntoByHand compares, for each node, where its arrows are led with the arrows below: the same nodes, and none twice.
func ledOntoByHand(g, h [][]int, row []int) bool {
	for node := range g {
		var led, want []int
		for to, arrow := range g[node] {
			if arrow == 1 {
				led = append(led, row[to])
			}
		}
		for to, arrow := range h[row[node]] {
			if arrow == 1 {
				want = append(want, to)
			}
		}
		slices.Sort(led)
		if !slices.Equal(led, want) {
			return false
		}
	}
	return true
}

// coverByHand takes a row that tells nodes of the second graph, whether it is a map or not.
func coverByHand(g, h [][]int, row []int) bool {
	return ledOntoByHand(g, h, row) && ledOntoByHand(turnedByHand(g), turnedByHand(h), row)
}

func coversByHand(g, h, rows [][]int) [][]int {
	var list [][]int
	for _, row := range rows {
		if coverByHand(g, h, row) {
			list = append(list, row)
		}
	}
	return list
}

func walkByHand(g [][]int, row []int) bool {
	if len(row) == 0 || len(row) > maxWalk {
		return false
	}
	for at, node := range row {
		if node < 0 || node >= len(g) || at > 0 && g[row[at-1]][node] == 0 {
			return false
		}
	}
	return true
}

// walksByHand are all walks of so many nodes.
func walksByHand(g [][]int, nodes int) [][]int {
	var walks [][]int
	for node := range g {
		walks = append(walks, []int{node})
	}
	for range nodes - 1 {
		var longer [][]int
		for _, walk := range walks {
			for to, arrow := range g[walk[len(walk)-1]] {
				if arrow == 1 {
					longer = append(longer, append(slices.Clone(walk), to))
				}
			}
		}
		walks = longer
	}
	return walks
}

// walkAlong goes so many steps, or until no arrow leaves, always along another one of the arrows that leave.
func walkAlong(g [][]int, from, steps, turn int) []int {
	walk := []int{from}
	for step := range steps {
		var ends []int
		for to, arrow := range g[walk[step]] {
			if arrow == 1 {
				ends = append(ends, to)
			}
		}
		if len(ends) == 0 {
			break
		}
		walk = append(walk, ends[(step+turn)%len(ends)])
	}
	return walk
}

// ledBy tells where a map leads the nodes of a row.
func ledBy(f, row []int) []int {
	led := make([]int, len(row))
	for at, node := range row {
		led[at] = f[node]
	}
	return led
}

// cover is a row that leads the nodes of a graph to those of another one.
type cover struct {
	g, h [][]int
	row  []int
}

// sheeted has above each node as many as there are sheets, and above each arrow, in the order of rows, an order of the sheets. All covers of so many sheets are made so, but for names.
func sheeted(h [][]int, sheets int, orders [][]int) cover {
	g, row, next := emptyGraph(len(h)*sheets), make([]int, len(h)*sheets), 0
	for from := range h {
		for sheet := range sheets {
			row[from*sheets+sheet] = from
		}
		for to, arrow := range h[from] {
			if arrow == 0 {
				continue
			}
			for sheet, other := range orders[next] {
				g[from*sheets+sheet][to*sheets+other] = 1
			}
			next++
		}
	}
	return cover{g, h, row}
}

// allSheeted are all covers of so many sheets, but for names.
func allSheeted(h [][]int, sheets int) []cover {
	orders, chosen := ordersOf(sheets), [][][]int{nil}
	for range impl.ArrowsIn(h) {
		var longer [][][]int
		for _, begun := range chosen {
			for _, order := range orders {
				longer = append(longer, append(slices.Clone(begun), order))
			}
		}
		chosen = longer
	}
	var list []cover
	for _, each := range chosen {
		list = append(list, sheeted(h, sheets, each))
	}
	return list
}

// mixedCover is one of many covers of so many sheets, with its nodes in any order.
func mixedCover(h [][]int, sheets int, number uint64) cover {
	var orders [][]int
	for arrow := range impl.ArrowsIn(h) {
		orders = append(orders, mixedOrder(sheets, number*131+uint64(arrow)))
	}
	x := sheeted(h, sheets, orders)
	order := mixedOrder(len(x.g), number)
	return cover{partByHand(x.g, order), h, ledBy(x.row, order)}
}

// smallCovers are, but for names, all covers of two and of three sheets of graphs of at most 2 nodes, and all of one sheet of those of at most 3.
func smallCovers() []cover {
	var list []cover
	for _, h := range allGraphs(3) {
		list = append(list, allSheeted(h, 1)...)
		if len(h) < 3 {
			list = append(list, allSheeted(h, 2)...)
			list = append(list, allSheeted(h, 3)...)
		}
	}
	return list
}

// largerCovers are some covers of graphs of every size, of each number of sheets for which there are at most 9 nodes.
func largerCovers() []cover {
	var list []cover
	for nodes := 1; nodes <= 9; nodes++ {
		graphs := [][][]int{emptyGraph(nodes), fullGraph(nodes), ringByHand(nodes), pathByHand(nodes), lineByHand(nodes), wholeByHand(nodes)}
		if nodes > 2 {
			graphs = append(graphs, besideByHand(ringByHand(nodes-1), plainNode()), besideByHand(loopNode(), pathByHand(nodes-1)), besideByHand(ringByHand(nodes-2), ringByHand(2)))
		}
		for number := range uint64(5) {
			graphs = append(graphs, mixedGraph(nodes, number), sparseGraph(nodes, number))
		}
		for at, h := range graphs {
			for sheets := 1; sheets*nodes <= 9; sheets++ {
				list = append(list, mixedCover(h, sheets, uint64(at)), mixedCover(h, sheets, uint64(at+100)))
			}
		}
	}
	return list
}

// besideCovers leads two graphs side by side to two side by side, of which the second one may be left uncovered.
func besideCovers(x, y cover) cover {
	row := slices.Clone(x.row)
	for _, below := range y.row {
		row = append(row, len(x.h)+below)
	}
	return cover{besideByHand(x.g, y.g), besideByHand(x.h, y.h), row}
}

// partedCovers are covers of graphs in several parts: of different numbers of sheets, and with parts to which nothing is led.
func partedCovers() []cover {
	var list, parts []cover
	for at, h := range [][][]int{plainNode(), loopNode(), ringByHand(2), pathByHand(2), ringByHand(3), wholeByHand(3), emptyGraph(2), besideByHand(loopNode(), pathByHand(2))} {
		for sheets := 1; sheets <= 3; sheets++ {
			parts = append(parts, mixedCover(h, sheets, uint64(at)))
		}
	}
	for _, x := range parts {
		for _, y := range parts {
			if len(x.g)+len(y.g) <= 9 {
				list = append(list, besideCovers(x, y))
			}
			if len(x.h)+len(y.h) <= 9 {
				list = append(list, cover{x.g, besideByHand(x.h, y.h), x.row})
			}
		}
	}
	return list
}

func allCovers() []cover {
	return slices.Concat(smallCovers(), largerCovers(), partedCovers())
}

func arrowsOf(g [][]int, node int) (leave, come int) {
	for other := range g {
		leave += g[node][other]
		come += g[other][node]
	}
	return leave, come
}

// checkCover takes any row that tells nodes of the second graph.
func checkCover(t *testing.T, g, h [][]int, row []int) bool {
	t.Helper()
	want := coverByHand(g, h, row)
	if impl.CoverOk(g, h, row) != want {
		t.Fatal(row, "from", g, "to", h, "is a cover:", !want)
	}
	if turned := impl.CoverOk(impl.TurnedOf(g), impl.TurnedOf(h), row); turned != want {
		t.Fatal(row, "from", g, "to", h, "is a cover:", want, "but turned round:", turned)
	}
	if !want {
		return false
	}
	for node, below := range row {
		leave, come := arrowsOf(g, node)
		if leaveBelow, comeBelow := arrowsOf(h, below); leave != leaveBelow || come != comeBelow {
			t.Fatal(row, "from", g, "to", h, "does not keep how many arrows leave and come at", node)
		}
	}
	if !impl.MapOk(g, h, row) {
		t.Fatal(row, "from", g, "to", h, "is a cover, but no map")
	}
	return true
}

func TestP53CoversKeepHowManyArrowsLeave(t *testing.T) {
	covers, others := 0, 0
	forEachRow(func(g, h [][]int, row []int) {
		if checkCover(t, g, h, row) {
			covers++
		} else {
			others++
		}
	})
	if covers < 1000 || others < 1000 {
		t.Fatal("there are so many covers, and so many others:", covers, others)
	}
}

func TestP53OfCoversOfManySheets(t *testing.T) {
	for _, x := range allCovers() {
		if !checkCover(t, x.g, x.h, x.row) {
			t.Fatal(x, "is not made well")
		}
	}
}

func TestP53EachNodeToItselfIsACover(t *testing.T) {
	for _, g := range append(allGraphs(4), someSizes()...) {
		each := numbersFrom(0, len(g))
		if !impl.CoverOk(g, g, each) || !impl.CoverOk(impl.TurnedOf(g), impl.TurnedOf(g), each) {
			t.Fatal("each node to itself is no cover of", g)
		}
	}
}

// With one arrow more or less at one end a cover is none, and with one node led elsewhere it is hardly one.
func TestNearlyCovers(t *testing.T) {
	for _, x := range slices.Concat(largerCovers(), partedCovers()) {
		for from := range x.g {
			g := copyOf(x.g)
			to := (from*5 + 2) % len(g)
			g[from][to] = 1 - g[from][to]
			if checkCover(t, g, x.h, x.row) {
				t.Fatal(x.row, "from", g, "to", x.h)
			}
			h := copyOf(x.h)
			low, high := x.row[from], x.row[to]
			h[low][high] = 1 - h[low][high]
			if checkCover(t, x.g, h, x.row) {
				t.Fatal(x.row, "from", x.g, "to", h)
			}
			for node := range x.h {
				row := slices.Clone(x.row)
				row[from] = node
				checkCover(t, x.g, x.h, row)
			}
		}
	}
}

// Each of these holds on one side only: for arrows that leave, or for arrows that come.
func TestCoverOkOfSomeMaps(t *testing.T) {
	for _, one := range []struct {
		g, h string
		row  []int
		want bool
	}{
		{"", "", []int{0}, true},
		{"0", "0", []int{0}, true},
		{"", "0", []int{0}, false},
		{"0", "", []int{0}, false},
		{"/", "", []int{0, 0}, true},
		{"1/0", "0", []int{0, 0}, true},
		{"0/1", "0", []int{0, 0}, true},
		{"1/1", "0", []int{0, 0}, false},
		{"01/", "0", []int{0, 0}, false},
		{"01/01", "0", []int{0, 0}, false},
		{"1/", "0", []int{0, 0}, false},
		{"1/2/0", "0", []int{0, 0, 0}, true},
		{"2/2/", "1/", []int{0, 0, 1}, false},
		{"12//", "1/", []int{0, 1, 1}, false},
		{"2/3//", "1/", []int{0, 0, 1, 1}, true},
		{"3/2//", "1/", []int{0, 0, 1, 1}, true},
		{"1//", "1/", []int{0, 1, 1}, false},
		{"1//", "1/", []int{0, 1, 0}, false},
		{"1//3/", "1/", []int{0, 1, 0, 1}, true},
		{"1/0/3/2", "1/0", []int{0, 1, 0, 1}, true},
		{"1/0/3/2", "1/0", []int{0, 1, 1, 0}, true},
		{"1/2/3/0", "1/0", []int{0, 1, 0, 1}, true},
		{"1/2/3/0", "1/0", []int{0, 1, 1, 0}, false},
		{"1/2/", "1/2/0", []int{0, 1, 2}, false},
		{"1/2/0", "1/2/", []int{0, 1, 2}, false},
		{"1/2/0", "1/2/0", []int{1, 2, 0}, true},
		{"1/2/0", "1/2/0", []int{2, 1, 0}, false},
		{"1/2/0", "12/02/01", []int{0, 1, 2}, false},
		{"1/0/2", "1/0/2", []int{1, 0, 2}, true},
		{"1/0", "1/0/2", []int{1, 0}, true},
		{"1/0", "1/0/2", []int{2, 2}, true},
		{"0", "1/0/2", []int{2}, true},
		{"1/0/2", "1/0", []int{0, 1, 0}, false},
		{"1/2/0/4/5/3", "1/2/0", []int{0, 1, 2, 2, 0, 1}, true},
		{"1/2/3/4/5/0", "1/2/0", []int{0, 1, 2, 0, 1, 2}, true},
		{"12/02/01/45/35/34", "12/02/01", []int{0, 1, 2, 0, 1, 2}, true},
		{"15/02/13/24/35/04", "12/02/01", []int{0, 1, 2, 0, 1, 2}, true},
		{"15/02/13/24/35/04", "1/0", []int{0, 1, 0, 1, 0, 1}, false},
		{"1/2/3/4/5/6/7/8/0", "1/2/0", []int{0, 1, 2, 0, 1, 2, 0, 1, 2}, true},
		{"1/2/3/4/5/6/7/8/0", "0", []int{0, 0, 0, 0, 0, 0, 0, 0, 0}, true},
		{"1/2/3/4/5/6/7/8/", "0", []int{0, 0, 0, 0, 0, 0, 0, 0, 0}, false},
	} {
		g, h := readGraph(t, one.g), readGraph(t, one.h)
		if checkCover(t, g, h, one.row) != one.want {
			t.Errorf("from %q to %q %v is a cover: %v", one.g, one.h, one.row, !one.want)
		}
	}
}

// Covers behind covers are covers, of as many sheets as the one times the other one.
func TestCoversBehindCoversAreCovers(t *testing.T) {
	for _, x := range largerCovers() {
		for sheets := 1; sheets*len(x.g) <= 9; sheets++ {
			y := mixedCover(x.g, sheets, 7)
			both := impl.BehindOf(y.g, x.g, x.h, y.row, x.row)
			if !impl.CoverOk(y.g, x.h, both) {
				t.Fatal(y.row, "from", y.g, "to", x.g, "and", x.row, "to", x.h, "make", both)
			}
			if impl.OnePartOk(x.h) && impl.SheetsOf(y.g, x.h, both) != sheets*impl.SheetsOf(x.g, x.h, x.row) {
				t.Fatal(y.row, "from", y.g, "to", x.g, "and", x.row, "to", x.h, "make so many sheets:", impl.SheetsOf(y.g, x.h, both))
			}
		}
	}
}

// checkLiftedWalk takes a walk that begins at the node to which the start is led.
func checkLiftedWalk(t *testing.T, x cover, walk []int, start int) []int {
	t.Helper()
	above, ok := impl.LiftedWalk(x.g, x.h, x.row, walk, start)
	if !ok || !impl.WalkOk(x.g, above) || !walkByHand(x.g, above) || above[0] != start || !slices.Equal(ledBy(x.row, above), walk) {
		t.Fatal("the walk", walk, "is lifted by", x.row, "from", x.g, "to", x.h, "from", start, "as", above, ok)
	}
	for at := range above {
		for node := range x.g {
			other := slices.Clone(above)
			other[at] = node
			if node != above[at] && walkByHand(x.g, other) && other[0] == start && slices.Equal(ledBy(x.row, other), walk) {
				t.Fatal("the walk", walk, "is lifted by", x.row, "from", x.g, "to", x.h, "as", above, "and as", other)
			}
		}
	}
	return above
}

func checkNotLifted(t *testing.T, g, h [][]int, f, walk []int, start int) {
	t.Helper()
	if above, ok := impl.LiftedWalk(g, h, f, walk, start); ok || len(above) != 0 {
		t.Fatal("the walk", walk, "is lifted by", f, "from", g, "to", h, "from", start, "as", above, ok)
	}
}

// Here each other walk above is asked for.
func TestP54EachWalkIsLiftedAndJustOnce(t *testing.T) {
	for at, x := range smallCovers() {
		if len(x.g) == 6 && at%7 > 0 {
			continue
		}
		for nodes := 1; nodes <= 4; nodes++ {
			walks, above := walksByHand(x.h, nodes), walksByHand(x.g, nodes)
			lifted := map[[5]int]bool{}
			for _, walk := range walks {
				for start, below := range x.row {
					if below != walk[0] {
						checkNotLifted(t, x.g, x.h, x.row, walk, start)
						continue
					}
					key := [5]int{}
					copy(key[:], checkLiftedWalk(t, x, walk, start))
					lifted[key] = true
				}
			}
			if len(lifted) != len(above) {
				t.Fatal(x.row, "from", x.g, "to", x.h, "lifts", len(lifted), "walks of", nodes, "nodes, but there are", len(above))
			}
		}
	}
}

func TestP54OfLongWalks(t *testing.T) {
	for _, x := range slices.Concat(largerCovers(), partedCovers()) {
		for start, below := range x.row {
			for _, steps := range []int{0, 1, 5, 11, 12} {
				for turn := range 3 {
					checkLiftedWalk(t, x, walkAlong(x.h, below, steps, turn), start)
				}
			}
		}
	}
}

// Walks that are led by a cover are lifted to themselves.
func TestLedWalksAreLiftedToThemselves(t *testing.T) {
	for _, x := range largerCovers() {
		for start := range x.g {
			for turn := range 3 {
				walk := walkAlong(x.g, start, 12, turn)
				if above, ok := impl.LiftedWalk(x.g, x.h, x.row, ledBy(x.row, walk), start); !ok || !slices.Equal(above, walk) {
					t.Fatal("the walk", walk, "is led by", x.row, "from", x.g, "to", x.h, "and lifted as", above, ok)
				}
			}
		}
	}
}

// Any row of numbers is lifted just if it is a walk that begins below the start.
func TestLiftedWalkOfAllRows(t *testing.T) {
	for _, x := range []cover{
		mixedCover(plainNode(), 2, 0), mixedCover(loopNode(), 2, 1), mixedCover(ringByHand(2), 2, 2), mixedCover(pathByHand(2), 2, 3),
		mixedCover(fullGraph(2), 3, 4), mixedCover(ringByHand(3), 2, 5), mixedCover(pathByHand(3), 1, 6), mixedCover(wholeByHand(3), 3, 7),
		besideCovers(mixedCover(loopNode(), 3, 8), mixedCover(pathByHand(2), 2, 9)), {plainNode(), emptyGraph(3), []int{1}},
	} {
		for nodes := 0; nodes <= 4; nodes++ {
			for _, walk := range rowsOf(nodes, len(x.h)+2) {
				for at := range walk {
					walk[at]--
				}
				for start := -1; start <= len(x.g); start++ {
					if start >= 0 && start < len(x.g) && walkByHand(x.h, walk) && walk[0] == x.row[start] {
						checkLiftedWalk(t, x, walk, start)
					} else {
						checkNotLifted(t, x.g, x.h, x.row, walk, start)
					}
				}
			}
		}
	}
}

// What is no cover lifts no walk, not even one that there is above.
func TestMapsThatAreNoCoversLiftNoWalks(t *testing.T) {
	others := 0
	forEachRow(func(g, h [][]int, row []int) {
		if coverByHand(g, h, row) {
			return
		}
		others++
		for start := range g {
			checkNotLifted(t, g, h, row, []int{row[start]}, start)
			checkNotLifted(t, g, h, row, ledBy(row, walkAlong(g, start, 3, 0)), start)
		}
	})
	if others < 1000 {
		t.Fatal("so many are no covers:", others)
	}
}

func TestLiftedWalkOfSomeCovers(t *testing.T) {
	six, three := ringByHand(6), ringByHand(3)
	twice := []int{0, 1, 2, 0, 1, 2}
	for _, one := range []struct {
		g, h    [][]int
		f, walk []int
		start   int
		want    []int
	}{
		{six, three, twice, []int{1, 2, 0, 1}, 4, []int{4, 5, 0, 1}},
		{six, three, twice, []int{1, 2, 0, 1}, 1, []int{1, 2, 3, 4}},
		{six, three, twice, []int{0, 1, 2, 0, 1, 2, 0, 1, 2, 0, 1, 2, 0}, 3, []int{3, 4, 5, 0, 1, 2, 3, 4, 5, 0, 1, 2, 3}},
		{six, three, twice, []int{2}, 5, []int{5}},
		{six, three, twice, []int{2}, 2, []int{2}},
		{six, three, twice, []int{2}, 0, nil},
		{six, three, twice, []int{0, 2}, 0, nil},
		{six, three, twice, []int{0, 1, 0}, 0, nil},
		{six, three, twice, []int{0, 1, 2, 0, 1, 2, 0, 1, 2, 0, 1, 2, 0, 1}, 0, nil},
		{six, three, twice, []int{0, 1}, 6, nil},
		{six, three, twice, []int{0, 1}, -1, nil},
		{six, three, twice, []int{0, 4}, 0, nil},
		{six, three, twice, []int{3, 1}, 3, nil},
		{six, three, twice, nil, 0, nil},
		{six, three, []int{0, 1, 2, 0, 1, 1}, []int{0}, 0, nil},
		{ringByHand(4), loopNode(), []int{0, 0, 0, 0}, []int{0, 0, 0, 0, 0, 0}, 2, []int{2, 3, 0, 1, 2, 3}},
		{emptyGraph(3), plainNode(), []int{0, 0, 0}, []int{0}, 2, []int{2}},
		{emptyGraph(3), plainNode(), []int{0, 0, 0}, []int{0, 0}, 2, nil},
		{pathByHand(9), pathByHand(9), numbersFrom(0, 9), numbersFrom(0, 9), 0, numbersFrom(0, 9)},
		{pathByHand(9), pathByHand(9), numbersFrom(0, 9), numbersFrom(1, 8), 1, numbersFrom(1, 8)},
		{pathByHand(9), ringByHand(9), numbersFrom(0, 9), numbersFrom(0, 9), 0, nil},
	} {
		above, ok := impl.LiftedWalk(one.g, one.h, one.f, one.walk, one.start)
		if !slices.Equal(above, one.want) || ok != (one.want != nil) {
			t.Error("the walk", one.walk, "is lifted by", one.f, "from", one.g, "to", one.h, "from", one.start, "as", above, ok)
		}
	}
}

// checkSheets takes any row that tells nodes of the second graph, and answers the sheets.
func checkSheets(t *testing.T, g, h [][]int, row []int) int {
	t.Helper()
	sheets := impl.SheetsOf(g, h, row)
	if !coverByHand(g, h, row) || !onePartByHand(h) {
		if sheets != -1 {
			t.Fatal(row, "from", g, "to", h, "has so many sheets:", sheets)
		}
		return sheets
	}
	for node := range h {
		above := 0
		for _, below := range row {
			if below == node {
				above++
			}
		}
		if above != sheets {
			t.Fatal(row, "from", g, "to", h, "has so many sheets:", sheets, "but above", node, "there are", above)
		}
	}
	if sheets < 1 || len(g) != len(h)*sheets || impl.ArrowsIn(g) != impl.ArrowsIn(h)*sheets {
		t.Fatal(row, "from", g, "to", h, "has so many sheets:", sheets)
	}
	return sheets
}

func TestP55SheetsAreEverywhereAsMany(t *testing.T) {
	seen := map[int]int{}
	forEachRow(func(g, h [][]int, row []int) {
		seen[checkSheets(t, g, h, row)]++
	})
	for _, x := range slices.Concat(largerCovers(), smallCovers(), partedCovers()) {
		seen[checkSheets(t, x.g, x.h, x.row)]++
	}
	for sheets := 1; sheets <= 9; sheets++ {
		if seen[sheets] == 0 {
			t.Error("there is no cover of", sheets, "sheets")
		}
	}
	if seen[-1] < 1000 {
		t.Error("there are so many without sheets:", seen[-1])
	}
}

// Of a graph in one part a cover in several parts may have other sheets in each part; of one in several parts none are told, however many there are.
func TestSheetsOfGraphsInSeveralParts(t *testing.T) {
	for _, one := range []struct {
		g, h   string
		row    []int
		sheets int
	}{
		{"0/2/1", "0", []int{0, 0, 0}, 3},
		{"1/2/0/4/5/6/7/8/3", "1/2/0", []int{0, 1, 2, 0, 1, 2, 0, 1, 2}, 3},
		{"1/2/0/4/5/3", "1/2/0", []int{2, 0, 1, 0, 1, 2}, 2},
		{"1//3//5/", "1/", []int{0, 1, 0, 1, 0, 1}, 3},
		{"////////", "", []int{0, 0, 0, 0, 0, 0, 0, 0, 0}, 9},
		{"/", "/", []int{0, 1}, -1},
		{"/", "/", []int{1, 1}, -1},
		{"/", "/", []int{0, 0}, -1},
		{"", "/", []int{0}, -1},
		{"0/1", "0/1", []int{0, 1}, -1},
		{"0/1/3/2", "0/1", []int{0, 0, 1, 1}, -1},
		{"1/0", "1/0/", []int{0, 1}, -1},
		{"1/0", "1/0/2", []int{2, 2}, -1},
		{"1/2/0", "1/2/0/4/5/3", []int{3, 4, 5}, -1},
		{"1/0", "1/0", []int{1, 0}, 1},
		{"", "", []int{0}, 1},
		{"0", "0", []int{0}, 1},
	} {
		g, h := readGraph(t, one.g), readGraph(t, one.h)
		if !impl.CoverOk(g, h, one.row) || checkSheets(t, g, h, one.row) != one.sheets {
			t.Errorf("from %q to %q %v has so many sheets: %d", one.g, one.h, one.row, impl.SheetsOf(g, h, one.row))
		}
	}
}

// Covers of one sheet are just the maps that put the nodes of a graph into another order.
func TestCoversOfOneSheet(t *testing.T) {
	orders := map[int][][]int{}
	for nodes := 1; nodes <= 5; nodes++ {
		orders[nodes] = ordersOf(nodes)
	}
	for _, g := range slices.Concat(allGraphs(3), graphsOf4(331), graphsOf5()) {
		if turns := len(impl.CoversOf(g, g)); impl.OnePartOk(g) && turns != impl.TurnsOf(g) {
			t.Fatal(g, "covers itself in", turns, "ways")
		}
		for at, order := range orders[len(g)] {
			if at%5 > 0 {
				continue
			}
			h := partByHand(g, order)
			if !impl.CoverOk(h, g, order) || impl.OnePartOk(g) && impl.SheetsOf(h, g, order) != 1 {
				t.Fatal(order, "from", h, "to", g, "is no cover of one sheet")
			}
		}
	}
}

func checkCovers(t *testing.T, g, h, rows [][]int) {
	t.Helper()
	list := impl.CoversOf(g, h)
	if want := coversByHand(g, h, rows); !sameRows(list, want) {
		t.Fatal("the covers from", g, "to", h, "are", list, "not", want)
	}
	for _, row := range list {
		if !impl.CoverOk(g, h, row) || !impl.MapOk(g, h, row) {
			t.Fatal("from", g, "to", h, row, "is told as a cover")
		}
	}
}

func TestP56EachIsACover(t *testing.T) {
	kept := rowsBetween{}
	pairs := append(smallPairs(), fewPairs()...)
	for _, g := range allGraphs(3) {
		pairs = append(pairs, [2][][]int{g, g})
	}
	for number := range uint64(300) {
		pairs = append(pairs, [2][][]int{graphNumbered(4, number*211), graphNumbered(2, number%16)}, [2][][]int{graphNumbered(3, number*7%512), graphNumbered(3, number*61%509)})
	}
	for _, pair := range pairs {
		checkCovers(t, pair[0], pair[1], kept.rows(pair[0], pair[1]))
	}
}

// A cover that there is has to be told among all others, if these are few.
func TestP56OfCoversOfManySheets(t *testing.T) {
	kept := rowsBetween{}
	for at, x := range slices.Concat(largerCovers(), partedCovers(), smallCovers()) {
		if at > 700 && at%23 > 0 {
			continue
		}
		if !fewByHand(x.g, x.h) {
			if list := impl.CoversOf(x.g, x.h); len(list) != 0 {
				t.Fatal("the covers from", x.g, "to", x.h, "are", list)
			}
			continue
		}
		checkCovers(t, x.g, x.h, kept.rows(x.g, x.h))
		if list := impl.CoversOf(x.g, x.h); !slices.ContainsFunc(list, func(row []int) bool { return slices.Equal(row, x.row) }) {
			t.Fatal(x.row, "from", x.g, "to", x.h, "is not among", list)
		}
	}
}

// Each cover of a ring by a ring is told by where it leads the first node.
func TestP56RingsCoverRingsThatDivide(t *testing.T) {
	for first := 1; first <= 9; first++ {
		for second := 1; second <= 9; second++ {
			g, h := impl.RingOf(first), impl.RingOf(second)
			list, few := impl.CoversOf(g, h), fewByHand(ringByHand(first), ringByHand(second))
			if first <= 4 && second <= 4 && !few {
				t.Fatal(first, second, "are not few")
			}
			want := 0
			if first%second == 0 && few {
				want = second
			}
			if len(list) != want {
				t.Fatal("from a ring of", first, "to one of", second, "the covers are", list)
			}
			for from := range second {
				row := make([]int, first)
				for node := range row {
					row[node] = (from + node) % second
				}
				if want > 0 && !slices.Equal(list[from], row) {
					t.Fatal("from a ring of", first, "to one of", second, "the covers are", list)
				}
				if impl.CoverOk(g, h, row) != (first%second == 0) {
					t.Fatal("from a ring of", first, "to one of", second, row, "is a cover:", first%second != 0)
				}
			}
		}
	}
}

func TestCoversOfAsFarAsMapsAreFew(t *testing.T) {
	for second, most := range mostNodes() {
		for first := 1; first <= 9; first++ {
			want := powerOf(second, first)
			if first > most {
				want = 0
			}
			if list := impl.CoversOf(emptyGraph(first), emptyGraph(second)); len(list) != want {
				t.Error("from", first, "nodes without arrows to", second, "there are", len(list), "covers")
			}
		}
	}
}

func TestCoversOfSomeGraphs(t *testing.T) {
	for _, one := range []struct {
		g, h string
		want [][]int
	}{
		{"", "", [][]int{{0}}},
		{"0", "0", [][]int{{0}}},
		{"", "0", nil},
		{"0", "", nil},
		{"", "0/", [][]int{{1}}},
		{"0", "0/1", [][]int{{0}, {1}}},
		{"0/", "0/", [][]int{{0, 1}}},
		{"/0", "1/", [][]int{{1, 0}}},
		{"1/", "/0", [][]int{{1, 0}}},
		{"1//3/", "1/", [][]int{{0, 1, 0, 1}}},
		{"1/2/", "1/", nil},
		{"1/2/3/0", "1/0", [][]int{{0, 1, 0, 1}, {1, 0, 1, 0}}},
		{"1/0/3/2", "1/0", [][]int{{0, 1, 0, 1}, {0, 1, 1, 0}, {1, 0, 0, 1}, {1, 0, 1, 0}}},
		{"1/2/0", "12/02/01", nil},
		{"13/02/13/02", "1/0", nil},
		{"1/0/3/2", "0/2/1", [][]int{{0, 0, 0, 0}, {0, 0, 1, 2}, {0, 0, 2, 1}, {1, 2, 0, 0}, {1, 2, 1, 2}, {1, 2, 2, 1}, {2, 1, 0, 0}, {2, 1, 1, 2}, {2, 1, 2, 1}}},
		{"1/2/3/4/5/0", "1/2/0", [][]int{{0, 1, 2, 0, 1, 2}, {1, 2, 0, 1, 2, 0}, {2, 0, 1, 2, 0, 1}}},
		{"1/2/3/4/5/6/7/8/0", "1/2/0", nil},
		{"1/2/3/4/5/6/7/8/0", "0", [][]int{{0, 0, 0, 0, 0, 0, 0, 0, 0}}},
	} {
		if list := impl.CoversOf(readGraph(t, one.g), readGraph(t, one.h)); !sameRows(list, one.want) {
			t.Errorf("the covers from %q to %q are %v", one.g, one.h, list)
		}
	}
}

// twiceByHand puts the two arrows in for each arrow.
func twiceByHand(g [][]int) [][]int {
	twice := emptyGraph(2 * len(g))
	for from := range g {
		for to, arrow := range g[from] {
			twice[from][len(g)+to], twice[len(g)+from][to] = arrow, arrow
		}
	}
	return twice
}

// checkTwice takes a graph of at most 4 nodes.
func checkTwice(t *testing.T, g [][]int) [][]int {
	t.Helper()
	twice, each := impl.TwiceOf(g), numbersFrom(0, len(g))
	if !impl.GraphOk(twice) || !sameRows(twice, twiceByHand(g)) {
		t.Fatal("twice", g, "is", twice)
	}
	down := slices.Concat(each, each)
	if !impl.CoverOk(twice, g, down) || impl.OnePartOk(g) && impl.SheetsOf(twice, g, down) != 2 {
		t.Fatal("twice", g, "is", twice, "which is no cover of two sheets")
	}
	digits := slices.Concat(make([]int, len(g)), slices.Repeat([]int{1}, len(g)))
	if !impl.MapOk(twice, ringByHand(2), digits) {
		t.Fatal("twice", g, "is", twice, "of which", digits, "is no map to the ring of 2 nodes")
	}
	// The node v of the sheet s is the pair of v and s.
	var order []int
	for sheet := range 2 {
		for node := range g {
			order = append(order, 2*node+sheet)
		}
	}
	if !sameRows(twice, partByHand(timesByHand(g, ringByHand(2)), order)) {
		t.Fatal("twice", g, "is", twice, "and no product")
	}
	return twice
}

func TestP57TwiceIsACoverOfTwoSheets(t *testing.T) {
	for _, g := range allGraphs(4) {
		checkTwice(t, g)
	}
}

func TestP57TwiceIsBelowTheRingOfTwo(t *testing.T) {
	graphs := append(allGraphs(3), graphsOf4(37)...)
	for nodes := 1; nodes <= 4; nodes++ {
		graphs = append(graphs, emptyGraph(nodes), fullGraph(nodes), ringByHand(nodes), pathByHand(nodes), wholeByHand(nodes))
	}
	for _, g := range graphs {
		twice := impl.TwiceOf(g)
		if rings := impl.RingsFor(twice); !slices.Contains(rings, 2) {
			t.Fatal("twice", g, "is", twice, "below the rings of", rings)
		}
		if !impl.BelowOk(twice, impl.RingOf(2)) {
			t.Fatal("twice", g, "is", twice, "and not below the ring of 2 nodes")
		}
	}
}

func TestP57TwiceIsTheProductWithTheRingOfTwo(t *testing.T) {
	for _, g := range allGraphs(2) {
		product, ok := impl.TimesOf(g, impl.RingOf(2))
		order, same := impl.SameGraph(impl.TwiceOf(g), product)
		if !ok || !same || len(order) != 2*len(g) {
			t.Fatal("twice", g, "is", impl.TwiceOf(g), "and not the same as", product)
		}
	}
	for _, g := range append(allGraphs(3)[18:], graphsOf4(331)...) {
		product, ok := impl.TimesOf(g, impl.RingOf(2))
		if !ok || !slices.Equal(impl.CountsOf(product), impl.CountsOf(impl.TwiceOf(g))) {
			t.Fatal("twice", g, "is", impl.TwiceOf(g), "and has other counts than", product)
		}
	}
}

func TestTwiceOfSomeGraphs(t *testing.T) {
	for text, want := range map[string]string{
		"":                    "/",
		"0":                   "1/0",
		"/":                   "///",
		"1/":                  "3//1/",
		"/0":                  "/2//0",
		"1/0":                 "3/2/1/0",
		"0/1":                 "2/3/0/1",
		"01/":                 "23//01/",
		"1/2/":                "4/5//1/2/",
		"1/2/0":               "4/5/3/1/2/0",
		"12/02/01":            "45/35/34/12/02/01",
		"///":                 "///////",
		"1/2/3/0":             "5/6/7/4/1/2/3/0",
		"0123/0123/0123/0123": "4567/4567/4567/4567/0123/0123/0123/0123",
		"3///":                "7////3///",
		"///012":              "///456////012",
	} {
		if twice := impl.TwiceOf(readGraph(t, text)); impl.GraphText(twice) != want || len(twice) == 0 {
			t.Errorf("twice %q is %v, not %q", text, twice, want)
		}
	}
}

func TestTwiceOfGraphsOf5AndMore(t *testing.T) {
	for nodes := 5; nodes <= 9; nodes++ {
		for _, g := range [][][]int{emptyGraph(nodes), fullGraph(nodes), ringByHand(nodes), pathByHand(nodes), mixedGraph(nodes, 1)} {
			if twice := impl.TwiceOf(g); len(twice) != 0 {
				t.Error("twice", g, "is", twice)
			}
		}
	}
}

// A ring of an odd number of nodes is covered by one ring, one of an even number by two.
func TestTwiceOfRings(t *testing.T) {
	for nodes := 1; nodes <= 4; nodes++ {
		twice := impl.TwiceOf(impl.RingOf(nodes))
		if one := impl.OnePartOk(twice); one != (nodes%2 == 1) {
			t.Error("twice the ring of", nodes, "is in one part:", one)
		}
	}
}

// checkWalk takes any row, and asks for its beginnings too.
func checkWalk(t *testing.T, g [][]int, row []int) bool {
	t.Helper()
	want := walkByHand(g, row)
	if impl.WalkOk(g, row) != want {
		t.Fatal(row, "is a walk of", g, !want)
	}
	if want && len(row) > 1 && !impl.WalkOk(g, row[:len(row)-1]) {
		t.Fatal(row, "is a walk of", g, "but not without its last node")
	}
	return want
}

func TestP68BeginningsOfWalksAreWalks(t *testing.T) {
	walks, others := 0, 0
	kept := map[[2]int][][]int{}
	for nodes := 1; nodes <= 3; nodes++ {
		for length := range 5 {
			kept[[2]int{nodes, length}] = rowsOf(length, nodes+2)
		}
	}
	for at, g := range allGraphs(3) {
		for length := range 5 {
			if length == 4 && at%3 > 0 {
				continue
			}
			for _, begun := range kept[[2]int{len(g), length}] {
				row := slices.Clone(begun)
				for at := range row {
					row[at]--
				}
				if checkWalk(t, g, row) {
					walks++
				} else {
					others++
				}
			}
		}
	}
	if walks < 1000 || others < 1000 {
		t.Fatal("so many are walks, and so many others:", walks, others)
	}
}

func TestP68OneNodeIsAWalk(t *testing.T) {
	for _, g := range someSizes() {
		for node := range g {
			if !impl.WalkOk(g, []int{node}) {
				t.Fatal("the node", node, "is no walk of", g)
			}
		}
		for _, node := range []int{-1, -2, len(g), len(g) + 1, 256, 1 << 32, math.MinInt, math.MaxInt} {
			if impl.WalkOk(g, []int{node}) {
				t.Fatal("the node", node, "is a walk of", g)
			}
		}
	}
}

// A long walk with one other node is one just if there are the arrows to that and from it.
func TestP68OfLongWalks(t *testing.T) {
	for _, g := range slices.Concat(mixedGraphs(), largerGraphs()) {
		for from := range g {
			walk := walkAlong(g, from, 12, from)
			if !checkWalk(t, g, walk) {
				t.Fatal(walk, "is no walk of", g)
			}
			for at := range walk {
				for node := -1; node <= len(g); node++ {
					row := slices.Clone(walk)
					row[at] = node
					checkWalk(t, g, row)
				}
			}
			for length := 1; length <= len(walk); length++ {
				checkWalk(t, g, walk[:length])
				checkWalk(t, g, walk[length-1:])
			}
		}
	}
}

func TestWalksAsLongAsTheyMayBe(t *testing.T) {
	if impl.MaxSteps != maxWalk-1 {
		t.Fatal(impl.MaxSteps)
	}
	for nodes := 1; nodes <= 9; nodes++ {
		g := ringByHand(nodes)
		for _, length := range []int{1, 2, 11, 12, 13, 14, 15, 20, 100, 256, 257, 1000} {
			if length > 1 && impl.WalkOk(emptyGraph(nodes), make([]int, length)) {
				t.Error("without arrows there is a walk of", length)
			}
			walk := walkAlong(g, 0, length-1, 0)
			want := length <= 13
			if impl.WalkOk(g, walk) != want || impl.WalkOk(fullGraph(nodes), walk) != want {
				t.Error("of the ring of", nodes, "and of all arrows there is a walk of", length, !want)
			}
			above, ok := impl.LiftedWalk(g, g, numbersFrom(0, nodes), walk, 0)
			if ok != want || ok && !slices.Equal(above, walk) || !ok && len(above) != 0 {
				t.Error("in the ring of", nodes, "is lifted a walk of", length, above, ok)
			}
		}
	}
}

func TestWalkOkOfSomeRows(t *testing.T) {
	for _, one := range []struct {
		text string
		row  []int
		want bool
	}{
		{"", nil, false},
		{"", []int{0}, true},
		{"", []int{0, 0}, false},
		{"0", []int{0, 0}, true},
		{"0", []int{}, false},
		{"0", []int{0, 0, 0, 0, 0, 0, 0, 0, 0, 0, 0, 0, 0}, true},
		{"0", []int{0, 0, 0, 0, 0, 0, 0, 0, 0, 0, 0, 0, 0, 0}, false},
		{"1/", []int{0, 1}, true},
		{"1/", []int{1, 0}, false},
		{"1/", []int{0, 0}, false},
		{"1/", []int{0, 1, 1}, false},
		{"1/0", []int{1, 0, 1, 0, 1}, true},
		{"1/2/0", []int{0, 1, 2, 0}, true},
		{"1/2/0", []int{0, 2}, false},
		{"1/2/0", []int{2, 0, 1, 2, 1}, false},
		{"1/2/0", []int{0, 1, 2, 3}, false},
		{"1/2/0", []int{0, -1}, false},
		{"1/2/0", []int{3, 0}, false},
		{"1//3/", []int{0, 1, 2, 3}, false},
		{"1//3/", []int{2, 3}, true},
		{"1/2/3/4/5/6/7/8/", []int{0, 1, 2, 3, 4, 5, 6, 7, 8}, true},
		{"1/2/3/4/5/6/7/8/", []int{0, 1, 2, 3, 4, 5, 6, 7, 8, 9}, false},
	} {
		if walk := checkWalk(t, readGraph(t, one.text), one.row); walk != one.want {
			t.Errorf("of %q %v is a walk: %v", one.text, one.row, walk)
		}
	}
}

// checkNoCover asks for all that is told of covers.
func checkNoCover(t *testing.T, name string, g, h [][]int, f []int) {
	t.Helper()
	if impl.CoverOk(g, h, f) {
		t.Error(name, "CoverOk", g, h, f)
	}
	if sheets := impl.SheetsOf(g, h, f); sheets != -1 {
		t.Error(name, "SheetsOf", g, h, f, sheets)
	}
	for _, walk := range [][]int{nil, {0}, {0, 0}, {0, 1}, f} {
		for _, start := range []int{-1, 0, len(g) - 1, len(g), math.MinInt, math.MaxInt} {
			checkNotLifted(t, g, h, f, walk, start)
		}
	}
}

func TestBadGraphsHaveNoCovers(t *testing.T) {
	for name, bad := range badGraphs() {
		if twice := impl.TwiceOf(bad); len(twice) != 0 {
			t.Error(name, "TwiceOf", twice)
		}
		for _, row := range [][]int{nil, {0}, {0, 0}, make([]int, len(bad)), numbersFrom(0, len(bad))} {
			if impl.WalkOk(bad, row) {
				t.Error(name, "WalkOk", row)
			}
			for _, two := range [][2][][]int{{bad, plainNode()}, {bad, loopNode()}, {plainNode(), bad}, {loopNode(), bad}, {bad, bad}, {bad, fullGraph(9)}, {emptyGraph(9), bad}} {
				checkNoCover(t, name, two[0], two[1], row)
				if list := impl.CoversOf(two[0], two[1]); len(list) != 0 {
					t.Error(name, "CoversOf", list)
				}
			}
		}
	}
}

// Between graphs without arrows nothing but the numbers of a row keeps it from being a cover.
func TestBadRowsAreNoCovers(t *testing.T) {
	for first := 1; first <= 9; first++ {
		for second := 1; second <= 9; second++ {
			if !impl.CoverOk(emptyGraph(first), emptyGraph(second), make([]int, first)) {
				t.Error("from", first, "nodes without arrows to", second)
			}
			for _, row := range badRows(first, second) {
				checkNoCover(t, "bad row", emptyGraph(first), emptyGraph(second), row)
				checkNoCover(t, "bad row", ringByHand(first), fullGraph(second), row)
			}
		}
	}
}

// With walks of all nodes below nothing but the start keeps one from being lifted.
func TestBadStarts(t *testing.T) {
	for _, x := range largerCovers() {
		for node := range x.h {
			for _, start := range []int{-1, -2, -len(x.g), len(x.g), len(x.g) + 1, 256, 1 << 32, math.MinInt, math.MaxInt} {
				checkNotLifted(t, x.g, x.h, x.row, []int{node}, start)
			}
			for start, below := range x.row {
				if below != node {
					checkNotLifted(t, x.g, x.h, x.row, []int{node}, start)
				}
			}
		}
	}
}

// A row of numbers that begins as a walk is not lifted as far as it is one.
func TestBadWalksAreNotLifted(t *testing.T) {
	for _, x := range largerCovers() {
		start := len(x.g) - 1
		walk := walkAlong(x.h, x.row[start], 12, 1)
		for at := range walk {
			for _, node := range []int{-1, len(x.h), len(x.h) + 1, len(x.g), 9, 256, 1 << 32, math.MinInt, math.MaxInt} {
				row := slices.Clone(walk)
				row[at] = node
				if node >= len(x.h) || node < 0 {
					checkNotLifted(t, x.g, x.h, x.row, row, start)
				}
			}
			for node := range x.h {
				if x.h[walk[at]][node] == 0 {
					checkNotLifted(t, x.g, x.h, x.row, append(slices.Clone(walk[:at+1]), node), start)
				}
			}
		}
		checkNotLifted(t, x.g, x.h, x.row, nil, start)
		checkNotLifted(t, x.g, x.h, x.row, []int{}, start)
	}
}

func TestArgumentsOfCoversAreNotWrittenTo(t *testing.T) {
	given := [][][]int{plainNode(), loopNode(), emptyGraph(4), fullGraph(3), ringByHand(2), ringByHand(4), pathByHand(2), emptyGraph(9), ringByHand(9), {{0, 2}, {0, 1}}, {{0, 1}, {0}}, emptyGraph(10)}
	for _, first := range given {
		for _, second := range given {
			for _, list := range [][]int{{0}, {1}, {0, 0}, {0, 1}, {0, 1, 0, 1}, {0, 0, 0, 0}, {0, 1, 2, 3}, {0, 7, 1}, numbersFrom(0, 9), make([]int, 14)} {
				g, h, f, walk := roomyRows(first), roomyRows(second), roomy(list), roomy([]int{0, 1, 0})
				impl.CoverOk(g, h, f)
				impl.WalkOk(g, f)
				impl.LiftedWalk(g, h, f, walk, 0)
				impl.LiftedWalk(g, h, f, f, 0)
				impl.LiftedWalk(g, h, f, walk, 2)
				impl.SheetsOf(g, h, f)
				impl.CoversOf(g, h)
				impl.TwiceOf(g)
				if !unchangedRows(g, first) || !unchangedRows(h, second) || !unchangedRow(f, list) || !unchangedRow(walk, []int{0, 1, 0}) {
					t.Fatal("written to", first, second, list, "now", g, h, f, walk)
				}
			}
		}
	}
}

func TestResultsOfCoversAreNewMemory(t *testing.T) {
	for at, x := range largerCovers() {
		if at%5 > 0 {
			continue
		}
		start := at % len(x.g)
		walk := walkAlong(x.h, x.row[start], 12, 0)
		lifted := func(g, h [][]int, f, walk []int) [][]int {
			above, _ := impl.LiftedWalk(g, h, f, walk, start)
			return [][]int{above}
		}
		checkNewMemory(t, "LiftedWalk", x.g, x.h, x.row, func(g, h [][]int, l []int) [][]int { return lifted(g, h, l, walk) })
		checkNewMemory(t, "LiftedWalk", x.g, x.h, walk, func(g, h [][]int, l []int) [][]int { return lifted(g, h, x.row, l) })
		if fewByHand(x.g, x.h) {
			checkNewMemory(t, "CoversOf", x.g, x.h, nil, func(g, h [][]int, l []int) [][]int { return impl.CoversOf(g, h) })
		}
		if len(x.g) <= 4 {
			checkNewMemory(t, "TwiceOf", x.g, x.h, nil, func(g, h [][]int, l []int) [][]int { return impl.TwiceOf(g) })
		}
	}
}

// A graph may have rows that are one and the same slice, be both arguments at once, and the walk may be the map.
func TestCoversMayShareArguments(t *testing.T) {
	row := []int{1, 1}
	g := [][]int{row, row}
	if !impl.CoverOk(g, g, []int{1, 0}) || impl.CoverOk(g, g, row) || impl.SheetsOf(g, g, []int{0, 1}) != 1 {
		t.Fatal(g)
	}
	if above, ok := impl.LiftedWalk(g, g, []int{1, 0}, row, 0); !ok || !slices.Equal(above, []int{0, 0}) {
		t.Fatal(above, ok)
	}
	each := []int{0, 1, 2}
	ring := ringByHand(3)
	if above, ok := impl.LiftedWalk(ring, ring, each, each, 0); !ok || !slices.Equal(above, each) {
		t.Fatal(above, ok)
	}
	if list := impl.CoversOf(g, g); !sameRows(list, [][]int{{0, 1}, {1, 0}}) || !slices.Equal(row, []int{1, 1}) {
		t.Fatal(list, row)
	}
	if twice := impl.TwiceOf(g); impl.GraphText(twice) != "23/23/01/01" || !impl.WalkOk(g, row) || !slices.Equal(row, []int{1, 1}) {
		t.Fatal(twice, row)
	}
}
