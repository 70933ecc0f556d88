package tests

import (
	"math"
	"slices"
	"testing"

	"loop.example/graphmaps/impl"
)

// timesByHand finds the first node of a pair by division, and the second one as the remainder.
func timesByHand(g, h [][]int) [][]int {
	product := emptyGraph(len(g) * len(h))
	for from, row := range product {
		for to := range row {
			row[to] = g[from/len(h)][to/len(h)] * h[from%len(h)][to%len(h)]
		}
	}
	return product
}

// productPairs are pairs of graphs of all sizes that have a product of at most 9 nodes.
func productPairs() [][2][][]int {
	var pairs [][2][][]int
	for _, g := range mixedGraphs() {
		for _, h := range mixedGraphs() {
			if len(g)*len(h) <= 9 {
				pairs = append(pairs, [2][][]int{g, h})
			}
		}
	}
	return pairs
}

// smallPairs are all pairs of a graph of at most 2 nodes and one of at most 3, either one first.
func smallPairs() [][2][][]int {
	var pairs [][2][][]int
	for _, g := range allGraphs(2) {
		for _, h := range allGraphs(3) {
			pairs = append(pairs, [2][][]int{g, h}, [2][][]int{h, g})
		}
	}
	return pairs
}

// smallTriples are all triples of graphs of at most 2 nodes.
func smallTriples() [][3][][]int {
	var triples [][3][][]int
	small := allGraphs(2)
	for _, first := range small {
		for _, second := range small {
			for _, third := range small {
				triples = append(triples, [3][][]int{first, second, third})
			}
		}
	}
	return triples
}

func checkTimes(t *testing.T, g, h [][]int) {
	t.Helper()
	product, ok := impl.TimesOf(g, h)
	if want := timesByHand(g, h); !ok || !sameRows(product, want) {
		t.Fatal(g, "times", h, "got", product, ok, "want", want)
	}
	if !impl.GraphOk(product) || impl.ArrowsIn(product) != impl.ArrowsIn(g)*impl.ArrowsIn(h) {
		t.Fatal(g, "times", h, "is", product, "with arrows:", impl.ArrowsIn(product))
	}
}

func TestP10ProductsHaveAsManyArrowsAsTheOneTimesTheOther(t *testing.T) {
	all := allGraphs(3)
	for _, g := range all {
		for _, h := range all {
			checkTimes(t, g, h)
		}
	}
	for _, pair := range productPairs() {
		checkTimes(t, pair[0], pair[1])
	}
}

// checkCountIntoProduct takes a graph of at most 3 nodes, from which all maps into a product are few.
func checkCountIntoProduct(t *testing.T, k, g, h [][]int) {
	t.Helper()
	product, ok := impl.TimesOf(g, h)
	first, second := impl.CountOf(k, g), impl.CountOf(k, h)
	if count := impl.CountOf(k, product); !ok || first < 0 || second < 0 || count != first*second {
		t.Fatal("from", k, "to", g, "times", h, "there are", count, "not", first, "times", second)
	}
	if impl.BelowOk(k, product) != (impl.BelowOk(k, g) && impl.BelowOk(k, h)) {
		t.Fatal(k, "is below", product, "but not below both", g, h, "or the other way round")
	}
}

func TestP10AMapIntoAProductIsTwoMaps(t *testing.T) {
	for _, three := range smallTriples() {
		checkCountIntoProduct(t, three[0], three[1], three[2])
	}
	for _, k := range allGraphs(3) {
		for number := range uint64(6) {
			checkCountIntoProduct(t, k, mixedGraph(3, number), mixedGraph(3, number+6))
			checkCountIntoProduct(t, k, mixedGraph(2, number), mixedGraph(4, number))
			checkCountIntoProduct(t, k, mixedGraph(9, number), graphNumbered(1, number))
		}
	}
}

func TestP10OfLargerProducts(t *testing.T) {
	from := [][][]int{plainNode(), loopNode(), {{0, 1}, {0, 0}}, emptyGraph(3), fullGraph(3), ringByHand(3), mixedGraph(3, 4)}
	for _, pair := range productPairs() {
		for _, k := range from {
			checkCountIntoProduct(t, k, pair[0], pair[1])
		}
	}
}

// checkMapsArePaired makes each map into a product again of what it is behind both sides.
func checkMapsArePaired(t *testing.T, k, g, h [][]int) {
	t.Helper()
	product, _ := impl.TimesOf(g, h)
	first, second := impl.SideOf(g, h, 0), impl.SideOf(g, h, 1)
	for _, x := range impl.MapsOf(k, product) {
		f, e := impl.BehindOf(k, product, g, x, first), impl.BehindOf(k, product, h, x, second)
		if again := impl.PairedOf(k, g, h, f, e); !slices.Equal(again, x) {
			t.Fatal(k, g, h, "made of", f, e, "is", again, "not", x)
		}
	}
}

func TestP10EachMapIntoAProductIsMadeOfTwo(t *testing.T) {
	for _, three := range smallTriples() {
		checkMapsArePaired(t, three[0], three[1], three[2])
	}
	for number := range uint64(20) {
		checkMapsArePaired(t, mixedGraph(3, number), mixedGraph(3, number+1), mixedGraph(3, number+2))
		checkMapsArePaired(t, mixedGraph(3, number), mixedGraph(2, number), mixedGraph(4, number))
		checkMapsArePaired(t, mixedGraph(3, number), mixedGraph(4, number), mixedGraph(2, number))
	}
}

func TestTimesOfSomeGraphs(t *testing.T) {
	edge, arrow, path := [][]int{{0, 1}, {1, 0}}, [][]int{{0, 1}, {0, 0}}, [][]int{{0, 1, 0}, {0, 0, 1}, {0, 0, 0}}
	for _, three := range []struct {
		g, h [][]int
		text string
	}{
		{arrow, path, "4/5////"},
		{path, arrow, "3//5///"},
		{edge, arrow, "3//1/"},
		{arrow, edge, "3/2//"},
		{edge, edge, "3/2/1/0"},
		{ringByHand(3), edge, "3/2/5/4/1/0"},
		{edge, ringByHand(3), "4/5/3/1/2/0"},
		{path, path, "4/5//7/8////"},
	} {
		if x, ok := impl.TimesOf(three.g, three.h); !ok || impl.GraphText(x) != three.text {
			t.Errorf("%v times %v is %q, not %q", three.g, three.h, impl.GraphText(x), three.text)
		}
	}
}

func TestProductsHaveAtMostMaxNodes(t *testing.T) {
	for first := 1; first <= 9; first++ {
		for second := 1; second <= 9; second++ {
			for _, g := range [][][]int{emptyGraph(first), fullGraph(first), mixedGraph(first, 1)} {
				for _, h := range [][][]int{emptyGraph(second), fullGraph(second), mixedGraph(second, 2)} {
					checkSizeOfProduct(t, g, h)
				}
			}
		}
	}
}

func checkSizeOfProduct(t *testing.T, g, h [][]int) {
	t.Helper()
	want, told := len(g)*len(h), len(g)*len(h) <= 9
	if !told {
		want = 0
	}
	x, ok := impl.TimesOf(g, h)
	if ok != told || len(x) != want {
		t.Fatal(g, "times", h, "is told:", ok, x)
	}
	for side := range 2 {
		if row := impl.SideOf(g, h, side); len(row) != want {
			t.Fatal(g, "times", h, "has the side", row)
		}
	}
	// One node without arrows is led to any nodes, so that nothing but the number of nodes keeps the maps from being paired.
	last := []int{len(g) - 1}
	if row := impl.PairedOf(plainNode(), g, h, last, []int{len(h) - 1}); told != slices.Equal(row, []int{want - 1}) || !told && len(row) != 0 {
		t.Fatal(g, "times", h, "has the pair", row)
	}
}

func TestP11SidesAreMaps(t *testing.T) {
	for _, pair := range append(smallPairs(), productPairs()...) {
		g, h := pair[0], pair[1]
		product, _ := impl.TimesOf(g, h)
		first, second := impl.SideOf(g, h, 0), impl.SideOf(g, h, 1)
		if !impl.MapOk(product, g, first) || !impl.MapOk(product, h, second) {
			t.Fatal(g, h, "have the sides", first, second)
		}
		for number := range product {
			if first[number] != number/len(h) || second[number] != number%len(h) {
				t.Fatal(g, h, "have the sides", first, second)
			}
		}
	}
}

func TestSidesAreNoughtAndOne(t *testing.T) {
	arrow, path := [][]int{{0, 1}, {0, 0}}, [][]int{{0, 1, 0}, {0, 0, 1}, {0, 0, 0}}
	if row := impl.SideOf(arrow, path, 0); !slices.Equal(row, []int{0, 0, 0, 1, 1, 1}) {
		t.Fatal(row)
	}
	if row := impl.SideOf(arrow, path, 1); !slices.Equal(row, []int{0, 1, 2, 0, 1, 2}) {
		t.Fatal(row)
	}
	for _, pair := range productPairs() {
		for _, side := range []int{-1, -2, 2, 3, 9, 256, 257, 1 << 32, 1<<32 + 1, math.MinInt, math.MinInt + 1, math.MaxInt} {
			if row := impl.SideOf(pair[0], pair[1], side); len(row) != 0 {
				t.Fatal(pair[0], pair[1], side, row)
			}
		}
	}
}

// checkPaired takes any two rows of the right nodes, whether they are maps or not.
func checkPaired(t *testing.T, k, g, h [][]int, f, e []int) {
	t.Helper()
	x := impl.PairedOf(k, g, h, f, e)
	if !mapByHand(k, g, f) || !mapByHand(k, h, e) {
		if len(x) != 0 {
			t.Fatal(k, g, h, f, e, "are no maps, but there is", x)
		}
		return
	}
	product, _ := impl.TimesOf(g, h)
	if len(x) != len(k) || !impl.MapOk(k, product, x) {
		t.Fatal(k, g, h, f, e, x)
	}
	for node := range k {
		if x[node] != f[node]*len(h)+e[node] {
			t.Fatal(k, g, h, f, e, x)
		}
	}
	first := impl.BehindOf(k, product, g, x, impl.SideOf(g, h, 0))
	second := impl.BehindOf(k, product, h, x, impl.SideOf(g, h, 1))
	if !slices.Equal(first, f) || !slices.Equal(second, e) {
		t.Fatal(k, g, h, f, e, x, "has the sides", first, second)
	}
}

func TestP12PairsHaveBothSides(t *testing.T) {
	kept := rowsBetween{}
	for _, three := range smallTriples() {
		k, g, h := three[0], three[1], three[2]
		for _, f := range kept.rows(k, g) {
			for _, e := range kept.rows(k, h) {
				checkPaired(t, k, g, h, f, e)
			}
		}
	}
}

func TestP12OfLargerGraphs(t *testing.T) {
	kept := rowsBetween{}
	from := [][][]int{plainNode(), loopNode(), emptyGraph(3), ringByHand(3), ringByHand(4), fullGraph(4), mixedGraph(3, 2), mixedGraph(4, 3)}
	for _, pair := range productPairs() {
		g, h := pair[0], pair[1]
		for _, k := range from {
			intoFirst, intoSecond := kept.rows(k, g), kept.rows(k, h)
			for _, f := range append(someOf(mapsByHand(k, g, intoFirst), 3), someOf(intoFirst, 2)...) {
				for _, e := range append(someOf(mapsByHand(k, h, intoSecond), 3), someOf(intoSecond, 2)...) {
					checkPaired(t, k, g, h, f, e)
				}
			}
		}
	}
}

// From 9 nodes to 3 there are 19683 rows, which are not few; but two maps that are given are paired.
func TestP12OfGraphsThatAreNotFew(t *testing.T) {
	f, e := []int{0, 0, 0, 1, 1, 1, 2, 2, 2}, []int{0, 1, 2, 0, 1, 2, 0, 1, 2}
	for _, k := range [][][]int{emptyGraph(9), fullGraph(9), mixedGraph(9, 1), ringByHand(9)} {
		for _, g := range [][][]int{emptyGraph(3), fullGraph(3), ringByHand(3)} {
			for _, h := range [][][]int{emptyGraph(3), fullGraph(3), ringByHand(3)} {
				checkPaired(t, k, g, h, f, e)
				checkPaired(t, k, g, h, e, f)
				checkPaired(t, k, g, h, e, e)
			}
		}
	}
	if x := impl.PairedOf(emptyGraph(9), fullGraph(3), fullGraph(3), f, e); !slices.Equal(x, numbersFrom(0, 9)) {
		t.Fatal(x)
	}
}

// checkJoined takes any two rows of the right nodes, whether they are maps or not.
func checkJoined(t *testing.T, g, h, k [][]int, f, e []int) {
	t.Helper()
	x := impl.JoinedOf(g, h, k, f, e)
	if !mapByHand(g, k, f) || !mapByHand(h, k, e) {
		if len(x) != 0 {
			t.Fatal(g, h, k, f, e, "are no maps, but there is", x)
		}
		return
	}
	both, _ := impl.BesideOf(g, h)
	if len(x) != len(f)+len(e) || !impl.MapOk(both, k, x) {
		t.Fatal(g, h, k, f, e, x)
	}
	if !slices.Equal(x[:len(g)], f) || !slices.Equal(x[len(g):], e) {
		t.Fatal(g, h, k, f, e, x)
	}
}

// checkBelowFromBeside asks for a map from two graphs side by side, as far as these are few, and joins two maps where both are below.
func checkBelowFromBeside(t *testing.T, g, h, k [][]int) {
	t.Helper()
	both, ok := impl.BesideOf(g, h)
	if !ok || !fewByHand(both, k) {
		t.Fatal("not few", g, h, k)
	}
	firsts, seconds := impl.MapsOf(g, k), impl.MapsOf(h, k)
	joined := 0
	for _, f := range firsts {
		for _, e := range seconds {
			if len(impl.JoinedOf(g, h, k, f, e)) > 0 {
				joined++
			}
		}
	}
	below := impl.BelowOk(g, k) && impl.BelowOk(h, k)
	if impl.BelowOk(both, k) != below || (joined > 0) != below || joined != impl.CountOf(both, k) {
		t.Fatal(g, "beside", h, "below", k, "both are:", below, "joined:", joined)
	}
}

func TestP13FromSideBySideIsFromBoth(t *testing.T) {
	kept := rowsBetween{}
	for _, three := range smallTriples() {
		g, h, k := three[0], three[1], three[2]
		for _, f := range kept.rows(g, k) {
			for _, e := range kept.rows(h, k) {
				checkJoined(t, g, h, k, f, e)
			}
		}
		checkBelowFromBeside(t, g, h, k)
	}
}

func TestP13OfLargerGraphs(t *testing.T) {
	kept := rowsBetween{}
	to := [][][]int{plainNode(), loopNode(), {{0, 1}, {1, 0}}, ringByHand(3), mixedGraph(2, 1), mixedGraph(3, 2), fullGraph(3)}
	for number := range uint64(4) {
		for first := 1; first <= 5; first++ {
			g, h := mixedGraph(first, number), emptyGraph(6-first)
			h[0][5-first] = 1
			for _, k := range to {
				for _, f := range someOf(kept.rows(g, k), 10) {
					for _, e := range someOf(kept.rows(h, k), 10) {
						checkJoined(t, g, h, k, f, e)
						checkJoined(t, h, g, k, e, f)
					}
				}
				checkBelowFromBeside(t, g, h, k)
				checkBelowFromBeside(t, h, g, k)
			}
		}
	}
}

func TestSideBySideAreAtMostMaxNodes(t *testing.T) {
	for first := 1; first <= 9; first++ {
		for second := 1; second <= 9; second++ {
			f, e := numbersFrom(0, first), make([]int, second)
			x := impl.JoinedOf(mixedGraph(first, 1), emptyGraph(second), fullGraph(9), f, e)
			if first+second > 9 {
				if len(x) != 0 {
					t.Fatal(first, second, x)
				}
				continue
			}
			if !slices.Equal(x, slices.Concat(f, e)) {
				t.Fatal(first, second, x)
			}
		}
	}
}

// checkSquare takes a graph of at most 3 nodes. From a square of 9 nodes to 3 there are 19683 rows, which are not few: below is not told then, but the sides are maps all the same.
func checkSquare(t *testing.T, g [][]int) {
	t.Helper()
	square, ok := impl.SquareOf(g)
	if !ok || !sameRows(square, timesByHand(g, g)) {
		t.Fatal("the square of", g, "is", square, ok)
	}
	self := numbersFrom(0, len(g))
	same := impl.PairedOf(g, g, g, self, self)
	if len(same) != len(g) || !impl.MapOk(g, square, same) {
		t.Fatal(g, "is led to the pairs", same)
	}
	for node, number := range same {
		if number != node*len(g)+node {
			t.Fatal(g, "is led to the pairs", same)
		}
	}
	if !impl.MapOk(square, g, impl.SideOf(g, g, 0)) || !impl.MapOk(square, g, impl.SideOf(g, g, 1)) {
		t.Fatal("the square of", g, "has no sides")
	}
	if !impl.BelowOk(g, square) || impl.SameLevel(g, square) != (len(g) <= 2) || impl.SameLevel(square, g) != (len(g) <= 2) {
		t.Fatal(g, square, impl.BelowOk(g, square), impl.SameLevel(g, square))
	}
}

func TestP14AGraphIsOnTheLevelOfItsSquare(t *testing.T) {
	for _, g := range allGraphs(3) {
		checkSquare(t, g)
	}
}

func TestSquaresAreOfAtMost3Nodes(t *testing.T) {
	for nodes := 1; nodes <= 9; nodes++ {
		for _, g := range [][][]int{emptyGraph(nodes), fullGraph(nodes), ringByHand(nodes), mixedGraph(nodes, 1)} {
			x, ok := impl.SquareOf(g)
			if nodes > 3 && (ok || len(x) != 0) {
				t.Fatal(g, x, ok)
			}
			if nodes <= 3 && (!ok || len(x) != nodes*nodes) {
				t.Fatal(g, x, ok)
			}
		}
	}
}

// One node with an arrow to itself leaves a graph as it is; without it, no arrow is left.
func TestProductsWithOneNode(t *testing.T) {
	for _, g := range manyGraphs() {
		self, noughts, bare := numbersFrom(0, len(g)), make([]int, len(g)), emptyGraph(len(g))
		for _, two := range []struct{ one, want [][]int }{{loopNode(), g}, {plainNode(), bare}} {
			if x, ok := impl.TimesOf(two.one, g); !ok || !sameRows(x, two.want) {
				t.Fatal(two.one, "times", g, "is", x)
			}
			if x, ok := impl.TimesOf(g, two.one); !ok || !sameRows(x, two.want) {
				t.Fatal(g, "times", two.one, "is", x)
			}
			if !slices.Equal(impl.SideOf(two.one, g, 1), self) || !slices.Equal(impl.SideOf(two.one, g, 0), noughts) {
				t.Fatal(two.one, g, impl.SideOf(two.one, g, 0), impl.SideOf(two.one, g, 1))
			}
			if !slices.Equal(impl.SideOf(g, two.one, 0), self) || !slices.Equal(impl.SideOf(g, two.one, 1), noughts) {
				t.Fatal(g, two.one, impl.SideOf(g, two.one, 0), impl.SideOf(g, two.one, 1))
			}
			checkPaired(t, g, two.one, g, noughts, self)
			checkPaired(t, g, g, two.one, self, noughts)
			checkPaired(t, bare, two.one, g, noughts, self)
		}
	}
}

func TestSquaresOfOneNode(t *testing.T) {
	for _, g := range [][][]int{plainNode(), loopNode()} {
		if x, ok := impl.SquareOf(g); !ok || !sameRows(x, g) || !impl.SameLevel(x, g) {
			t.Fatal(g, x, ok)
		}
	}
	if x, ok := impl.TimesOf(plainNode(), loopNode()); !ok || !sameRows(x, plainNode()) {
		t.Fatal(x, ok)
	}
}

func TestProductsWithAGraphWithoutArrows(t *testing.T) {
	for _, g := range manyGraphs() {
		for nodes := 1; nodes*len(g) <= 9; nodes++ {
			x, ok := impl.TimesOf(g, emptyGraph(nodes))
			y, also := impl.TimesOf(emptyGraph(nodes), g)
			if bare := emptyGraph(nodes * len(g)); !ok || !also || !sameRows(x, bare) || !sameRows(y, bare) {
				t.Fatal(g, nodes, x, y)
			}
		}
	}
	arrow, bare := [][]int{{0, 1}, {0, 0}}, emptyGraph(2)
	if x := impl.PairedOf(arrow, arrow, bare, []int{0, 1}, []int{0, 1}); len(x) != 0 {
		t.Fatal("an arrow is led to none", x)
	}
	if x := impl.PairedOf(bare, arrow, bare, []int{1, 1}, []int{0, 1}); !slices.Equal(x, []int{2, 3}) {
		t.Fatal(x)
	}
	if x := impl.JoinedOf(bare, bare, bare, []int{1, 1}, []int{0, 1}); !slices.Equal(x, []int{1, 1, 0, 1}) {
		t.Fatal(x)
	}
	if x := impl.JoinedOf(bare, arrow, bare, []int{0, 0}, []int{0, 0}); len(x) != 0 {
		t.Fatal("an arrow is led to none", x)
	}
}

// One node without arrows is led to any node, and each graph to one with an arrow to itself: so nothing but the bad graph keeps the answers from being told.
func TestBadGraphsHaveNoProducts(t *testing.T) {
	below, above, one := plainNode(), loopNode(), []int{0}
	for name, bad := range badGraphs() {
		for _, two := range [][2][][]int{{bad, above}, {above, bad}, {bad, bad}} {
			if x, ok := impl.TimesOf(two[0], two[1]); ok || len(x) != 0 {
				t.Error(name, "TimesOf", x, ok)
			}
			for side := -1; side <= 2; side++ {
				if row := impl.SideOf(two[0], two[1], side); len(row) != 0 {
					t.Error(name, "SideOf", side, row)
				}
			}
		}
		if x, ok := impl.SquareOf(bad); ok || len(x) != 0 {
			t.Error(name, "SquareOf", x, ok)
		}
		for _, rows := range [][]int{make([]int, len(bad)), one, nil} {
			for at, row := range [][]int{
				impl.PairedOf(bad, above, above, rows, rows),
				impl.PairedOf(below, bad, above, one, one),
				impl.PairedOf(below, above, bad, one, one),
				impl.PairedOf(bad, bad, bad, rows, rows),
				impl.JoinedOf(bad, below, above, rows, one),
				impl.JoinedOf(below, bad, above, one, rows),
				impl.JoinedOf(below, below, bad, one, one),
				impl.JoinedOf(bad, bad, bad, rows, rows),
			} {
				if len(row) != 0 {
					t.Error(name, rows, "the row at", at, "is", row)
				}
			}
		}
	}
}

func TestBadRowsAreNotPaired(t *testing.T) {
	for nodes := 1; nodes <= 9; nodes++ {
		for _, sizes := range [][2]int{{1, 1}, {1, 9}, {9, 1}, {3, 3}, {2, 4}, {4, 2}, {2, 2}} {
			k, g, h, good := emptyGraph(nodes), fullGraph(sizes[0]), fullGraph(sizes[1]), make([]int, nodes)
			if x := impl.PairedOf(k, g, h, good, good); !slices.Equal(x, good) {
				t.Fatal(nodes, sizes, x)
			}
			for _, row := range badRows(nodes, sizes[0]) {
				if x := impl.PairedOf(k, g, h, row, good); len(x) != 0 {
					t.Fatal("first one", nodes, sizes, row, x)
				}
			}
			for _, row := range badRows(nodes, sizes[1]) {
				if x := impl.PairedOf(k, g, h, good, row); len(x) != 0 {
					t.Fatal("second one", nodes, sizes, row, x)
				}
			}
		}
	}
}

func TestBadRowsAreNotJoined(t *testing.T) {
	for first := 1; first <= 8; first++ {
		for second := 1; first+second <= 9; second++ {
			for _, nodes := range []int{1, 2, 9} {
				g, h, k := emptyGraph(first), emptyGraph(second), fullGraph(nodes)
				f, e := make([]int, first), make([]int, second)
				if x := impl.JoinedOf(g, h, k, f, e); len(x) != first+second {
					t.Fatal(first, second, nodes, x)
				}
				for _, row := range badRows(first, nodes) {
					if x := impl.JoinedOf(g, h, k, row, e); len(x) != 0 {
						t.Fatal("first one", first, second, nodes, row, x)
					}
				}
				for _, row := range badRows(second, nodes) {
					if x := impl.JoinedOf(g, h, k, f, row); len(x) != 0 {
						t.Fatal("second one", first, second, nodes, row, x)
					}
				}
			}
		}
	}
}

// Together two rows may have as many numbers as both graphs have nodes, although neither has as many as its own.
func TestRowsOfEachOthersLengthAreNotJoined(t *testing.T) {
	full := fullGraph(3)
	if x := impl.JoinedOf(emptyGraph(1), emptyGraph(3), full, []int{0, 0}, []int{0, 0}); len(x) != 0 {
		t.Fatal(x)
	}
	if x := impl.JoinedOf(emptyGraph(1), emptyGraph(3), full, []int{0, 0, 0}, []int{0}); len(x) != 0 {
		t.Fatal(x)
	}
}

// A pair of a number that is too great and one that is too small may have a number in between.
func TestNumbersOutOfBoundsAreNotPaired(t *testing.T) {
	g, h := fullGraph(2), fullGraph(3)
	for _, two := range [][2]int{{0, 3}, {1, -1}, {2, -3}, {-1, 3}, {-1, 8}, {0, 5}} {
		if x := impl.PairedOf(plainNode(), g, h, []int{two[0]}, []int{two[1]}); len(x) != 0 {
			t.Fatal(two, x)
		}
	}
}

func TestArgumentsOfProductsAreNotWrittenTo(t *testing.T) {
	given := [][][]int{mixedGraph(3, 1), emptyGraph(3), fullGraph(3), fullGraph(4), emptyGraph(2), plainNode(), {{0, 2}, {0, 1}}, {{0, 1}, {0}}}
	for _, first := range given {
		for _, second := range given {
			for _, list := range [][]int{{0, 0, 0}, {0, 1, 2}, {2, 1, 7}, {1, 0}, {0}} {
				k, g, h, f, e := roomyRows(second), roomyRows(first), roomyRows(second), roomy(list), roomy(list)
				impl.TimesOf(g, h)
				impl.SideOf(g, h, 0)
				impl.SideOf(g, h, 1)
				impl.SideOf(g, h, 2)
				impl.PairedOf(k, g, h, f, e)
				impl.JoinedOf(g, h, k, f, e)
				impl.SquareOf(g)
				if !unchangedRows(k, second) || !unchangedRows(g, first) || !unchangedRows(h, second) {
					t.Fatal("written to", first, second, "now", k, g, h)
				}
				if !unchangedRow(f, list) || !unchangedRow(e, list) {
					t.Fatal("written to", list, "now", f, e)
				}
			}
		}
	}
}

func TestResultsOfProductsAreNewMemory(t *testing.T) {
	for nodes := 1; nodes <= 3; nodes++ {
		for _, first := range [][][]int{emptyGraph(nodes), mixedGraph(nodes, 1), fullGraph(nodes)} {
			for _, second := range [][][]int{plainNode(), loopNode(), fullGraph(nodes)} {
				checkProductsAreNewMemory(t, first, second)
			}
		}
	}
}

func checkProductsAreNewMemory(t *testing.T, first, second [][]int) {
	t.Helper()
	bare, noughts := emptyGraph(len(first)), make([]int, len(first))
	for name, result := range map[string]func(g, h [][]int, l []int) [][]int{
		"TimesOf":      func(g, h [][]int, l []int) [][]int { x, _ := impl.TimesOf(g, h); return x },
		"SquareOf":     func(g, h [][]int, l []int) [][]int { x, _ := impl.SquareOf(g); return x },
		"first SideOf": func(g, h [][]int, l []int) [][]int { return [][]int{impl.SideOf(g, h, 0)} },
		"last SideOf":  func(g, h [][]int, l []int) [][]int { return [][]int{impl.SideOf(g, h, 1)} },
		"PairedOf":     func(g, h [][]int, l []int) [][]int { return [][]int{impl.PairedOf(bare, g, h, l, l)} },
		"JoinedOf":     func(g, h [][]int, l []int) [][]int { return [][]int{impl.JoinedOf(bare, bare, h, l, l)} },
	} {
		checkNewMemory(t, name, first, second, noughts, result)
	}
}

// A graph may be all graphs at once, with rows that are one and the same slice, and a row both maps.
func TestProductsMayShareArguments(t *testing.T) {
	row := []int{1, 1}
	g := [][]int{row, row}
	if x, ok := impl.TimesOf(g, g); !ok || !sameRows(x, fullGraph(4)) {
		t.Fatal(x, ok)
	}
	if x := impl.PairedOf(g, g, g, row, row); !slices.Equal(x, []int{3, 3}) {
		t.Fatal(x)
	}
	if x := impl.JoinedOf(g, g, g, row, row); !slices.Equal(x, []int{1, 1, 1, 1}) {
		t.Fatal(x)
	}
	if x, ok := impl.SquareOf(g); !ok || impl.ArrowsIn(x) != 16 || !slices.Equal(row, []int{1, 1}) {
		t.Fatal(x, ok, row)
	}
}
