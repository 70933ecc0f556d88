package tests

import (
	"math"
	"slices"
	"testing"

	"loop.example/graphmaps/impl"
)

// powerByHand takes all rows from the exponent g to the base h, in their order.
func powerByHand(h, g, rows [][]int) [][]int {
	power := emptyGraph(len(rows))
	for first, from := range rows {
		for second, to := range rows {
			if joinedByHand(h, g, from, to) {
				power[first][second] = 1
			}
		}
	}
	return power
}

func joinedByHand(h, g [][]int, first, second []int) bool {
	for from := range g {
		for to := range g {
			if g[from][to] > h[first[from]][second[to]] {
				return false
			}
		}
	}
	return true
}

// mostInExponent tells for each number of nodes of a base how many an exponent has at most: 1^9, 2^3, 3^2 and 9^1 are at most 9, and 2^4, 3^3 and 4^2 are more.
func mostInExponent() map[int]int {
	return map[int]int{1: 9, 2: 3, 3: 2, 4: 1, 5: 1, 6: 1, 7: 1, 8: 1, 9: 1}
}

// powerPairs are pairs of graphs of all sizes, base and exponent, that have a power of at most 9 nodes.
func powerPairs() [][2][][]int {
	var pairs [][2][][]int
	most := mostInExponent()
	for _, h := range mixedGraphs() {
		for _, g := range mixedGraphs() {
			if len(g) <= most[len(h)] {
				pairs = append(pairs, [2][][]int{h, g})
			}
		}
	}
	return pairs
}

// checkPower takes all rows from the exponent to the base, maps and others.
func checkPower(t *testing.T, h, g, rows [][]int) {
	t.Helper()
	power, ok := impl.PowerOf(h, g)
	if want := powerByHand(h, g, rows); !ok || !impl.GraphOk(power) || !sameRows(power, want) {
		t.Fatal("the power of", h, "with", g, "got", power, ok, "want", want)
	}
	for number := range power {
		row := impl.RowAt(h, g, number)
		if isMap := mapByHand(g, h, rows[number]); power[number][number] == 1 != isMap || impl.MapOk(g, h, row) != isMap {
			t.Fatal("the row", row, "of", power, "is a map:", isMap)
		}
	}
}

func TestP15RowsWithAnArrowToThemselvesAreMaps(t *testing.T) {
	kept := rowsBetween{}
	for _, pair := range append(smallPairs(), powerPairs()...) {
		h, g := pair[0], pair[1]
		if len(g) <= mostInExponent()[len(h)] {
			checkPower(t, h, g, kept.rows(g, h))
		}
	}
}

// exponential is a graph k, an exponent g and a base h, with the product of k and g, and the power of h with g.
type exponential struct {
	k, g, h        [][]int
	product, power [][]int
}

func exponentialByHand(k, g, h [][]int) exponential {
	return exponential{k, g, h, timesByHand(k, g), powerByHand(h, g, rowsOf(len(g), len(h)))}
}

// smallExponentials are those of all triples of graphs of at most 2 nodes.
func smallExponentials() []exponential {
	var list []exponential
	for _, three := range smallTriples() {
		list = append(list, exponentialByHand(three[0], three[1], three[2]))
	}
	return list
}

// largerExponentials are some of all sizes that have a product and a power.
func largerExponentials() []exponential {
	arrow, path := [][]int{{0, 1}, {0, 0}}, [][]int{{0, 1, 0}, {0, 0, 1}, {0, 0, 0}}
	from := [][][]int{plainNode(), loopNode(), arrow, path, ringByHand(3), emptyGraph(3), mixedGraph(4, 1), fullGraph(4), ringByHand(9), mixedGraph(9, 2)}
	var list []exponential
	for _, pair := range powerPairs() {
		for _, k := range from {
			if len(k)*len(pair[1]) <= 9 {
				list = append(list, exponentialByHand(k, pair[1], pair[0]))
			}
		}
	}
	return list
}

// checkCountIntoPower counts maps both ways: there are as many rows into the power as from the product, so that both are few or neither is.
func checkCountIntoPower(t *testing.T, x exponential) {
	t.Helper()
	power, told := impl.PowerOf(x.h, x.g)
	product, ok := impl.TimesOf(x.k, x.g)
	if !told || !ok {
		t.Fatal(x, "has a power:", told, "and a product:", ok)
	}
	few := fewByHand(x.product, x.h)
	count, want := impl.CountOf(x.k, power), impl.CountOf(product, x.h)
	if impl.FewOk(x.k, power) != few || count != want || (count >= 0) != few {
		t.Fatal("from", x.k, "to the power of", x.h, "with", x.g, "there are", count, "not", want)
	}
	if impl.BelowOk(x.k, power) != impl.BelowOk(product, x.h) {
		t.Fatal(x.k, "is below", power, "but", product, "is not below", x.h, "or the other way round")
	}
}

func TestP15MapsFromAProductAreMapsIntoAPower(t *testing.T) {
	for _, x := range smallExponentials() {
		checkCountIntoPower(t, x)
	}
}

func TestP15OfLargerGraphs(t *testing.T) {
	for _, x := range largerExponentials() {
		checkCountIntoPower(t, x)
	}
	for _, k := range allGraphs(3) {
		for number := range uint64(4) {
			checkCountIntoPower(t, exponentialByHand(k, mixedGraph(2, number), mixedGraph(3, number)))
			checkCountIntoPower(t, exponentialByHand(k, mixedGraph(3, number), mixedGraph(2, number)))
		}
	}
}

func TestPowerOfSomeGraphs(t *testing.T) {
	edge, arrow, path := [][]int{{0, 1}, {1, 0}}, [][]int{{0, 1}, {0, 0}}, [][]int{{0, 1, 0}, {0, 0, 1}, {0, 0, 0}}
	for _, three := range []struct {
		h, g [][]int
		text string
	}{
		{edge, arrow, "13/13/02/02"},
		{arrow, edge, "3///"},
		{arrow, arrow, "13/13//"},
		{edge, edge, "3/1/2/0"},
		{edge, path, "37/37/26/26/15/15/04/04"},
		{path, arrow, "147/147/147/258/258/258///"},
		{ringByHand(3), arrow, "147/147/147/258/258/258/036/036/036"},
		{edge, [][]int{{0, 0}, {0, 1}}, "13/02/13/02"},
		{edge, [][]int{{1, 0}, {0, 0}}, "23/23/01/01"},
	} {
		if x, ok := impl.PowerOf(three.h, three.g); !ok || impl.GraphText(x) != three.text {
			t.Errorf("the power of %v with %v is %q, not %q", three.h, three.g, impl.GraphText(x), three.text)
		}
	}
}

func checkNumbers(t *testing.T, h, g, rows [][]int) {
	t.Helper()
	for number, want := range rows {
		row := impl.RowAt(h, g, number)
		if !slices.Equal(row, want) {
			t.Fatal("the power of", h, "with", g, "has at", number, "the row", row, "not", want)
		}
		if again := impl.NumberAt(h, g, row); again != number {
			t.Fatal("the power of", h, "with", g, "has the row", row, "at", again, "not at", number)
		}
	}
	for _, number := range []int{-1, -len(rows), len(rows), len(rows) + 1, 1 << 32, math.MinInt, math.MaxInt} {
		if row := impl.RowAt(h, g, number); len(row) != 0 {
			t.Fatal("the power of", h, "with", g, "has at", number, "the row", row)
		}
	}
}

func TestP16RowsHaveNumbers(t *testing.T) {
	kept := rowsBetween{}
	for _, pair := range powerPairs() {
		checkNumbers(t, pair[0], pair[1], kept.rows(pair[1], pair[0]))
	}
}

func TestP17NumbersHaveRows(t *testing.T) {
	kept := rowsBetween{}
	for _, pair := range powerPairs() {
		h, g := pair[0], pair[1]
		power, _ := impl.PowerOf(h, g)
		met := map[int]bool{}
		for _, row := range kept.rows(g, h) {
			number := impl.NumberAt(h, g, row)
			if number < 0 || number >= len(power) || met[number] {
				t.Fatal("the power of", h, "with", g, "has the row", row, "at", number)
			}
			met[number] = true
			if again := impl.RowAt(h, g, number); !slices.Equal(again, row) {
				t.Fatal("the power of", h, "with", g, "has at", number, "the row", again, "not", row)
			}
		}
	}
}

func TestBadRowsHaveNoNumbers(t *testing.T) {
	for base, most := range mostInExponent() {
		for nodes := 1; nodes <= most; nodes++ {
			h, g := fullGraph(base), emptyGraph(nodes)
			if number := impl.NumberAt(h, g, make([]int, nodes)); number != 0 {
				t.Fatal(base, nodes, number)
			}
			for _, row := range badRows(nodes, base) {
				if number := impl.NumberAt(h, g, row); number != -1 {
					t.Fatal(base, nodes, row, number)
				}
			}
		}
	}
	// Digits that are too great or too small may make a number in between.
	for _, row := range [][]int{{0, 2}, {1, -1}, {1, -2}, {2, -2}, {-1, 3}, {-1, 5}, {0, 3}} {
		if number := impl.NumberAt(fullGraph(2), emptyGraph(2), row); number != -1 {
			t.Fatal(row, number)
		}
	}
}

// leadsByRows reports whether a map from the product leads the pairs with each node of k as the row leads to which that node is led.
func (x exponential) leadsByRows(e, f []int) bool {
	for node, number := range e {
		if !slices.Equal(impl.RowAt(x.h, x.g, number), f[node*len(x.g):(node+1)*len(x.g)]) {
			return false
		}
	}
	return true
}

// checkLifted takes any row of the right nodes from the product to the base, whether it is a map or not.
func checkLifted(t *testing.T, x exponential, f []int) {
	t.Helper()
	e := impl.LiftedOf(x.k, x.g, x.h, f)
	if !mapByHand(x.product, x.h, f) {
		if len(e) != 0 {
			t.Fatal(x, f, "is no map, but lifted it is", e)
		}
		return
	}
	if len(e) != len(x.k) || !impl.MapOk(x.k, x.power, e) || !x.leadsByRows(e, f) {
		t.Fatal(x, f, "lifted is", e)
	}
	if again := impl.LoweredOf(x.k, x.g, x.h, e); !slices.Equal(again, f) {
		t.Fatal(x, f, "lifted is", e, "and lowered it is", again)
	}
}

// checkLowered takes any row of the right nodes to the power, whether it is a map or not.
func checkLowered(t *testing.T, x exponential, e []int) {
	t.Helper()
	f := impl.LoweredOf(x.k, x.g, x.h, e)
	if !mapByHand(x.k, x.power, e) {
		if len(f) != 0 {
			t.Fatal(x, e, "is no map, but lowered it is", f)
		}
		return
	}
	if len(f) != len(x.product) || !impl.MapOk(x.product, x.h, f) || !x.leadsByRows(e, f) {
		t.Fatal(x, e, "lowered is", f)
	}
	if again := impl.LiftedOf(x.k, x.g, x.h, f); !slices.Equal(again, e) {
		t.Fatal(x, e, "lowered is", f, "and lifted it is", again)
	}
}

func TestP18LiftedAndLoweredItIsAsBefore(t *testing.T) {
	kept := rowsBetween{}
	for _, x := range smallExponentials() {
		for _, f := range kept.rows(x.product, x.h) {
			checkLifted(t, x, f)
		}
	}
}

func TestP19LoweredAndLiftedItIsAsBefore(t *testing.T) {
	kept := rowsBetween{}
	for _, x := range smallExponentials() {
		for _, e := range kept.rows(x.k, x.power) {
			checkLowered(t, x, e)
		}
	}
}

// someTried are some maps from a graph to another one, and some of all rows.
func someTried(g, h, rows [][]int) [][]int {
	return append(someOf(mapsByHand(g, h, rows), 8), someOf(rows, 4)...)
}

func TestP18OfLargerGraphs(t *testing.T) {
	kept := rowsBetween{}
	for _, x := range largerExponentials() {
		if fewByHand(x.product, x.h) {
			for _, f := range someTried(x.product, x.h, kept.rows(x.product, x.h)) {
				checkLifted(t, x, f)
			}
		}
	}
}

func TestP19OfLargerGraphs(t *testing.T) {
	kept := rowsBetween{}
	for _, x := range largerExponentials() {
		if fewByHand(x.k, x.power) {
			for _, e := range someTried(x.k, x.power, kept.rows(x.k, x.power)) {
				checkLowered(t, x, e)
			}
		}
	}
}

// From 9 nodes to 9 there are 9^9 rows, which are not few; but a map that is given is lifted and lowered.
func TestP18AndP19OfGraphsThatAreNotFew(t *testing.T) {
	for nodes := 5; nodes <= 9; nodes++ {
		for _, g := range [][][]int{plainNode(), loopNode()} {
			for _, k := range [][][]int{emptyGraph(nodes), fullGraph(nodes), mixedGraph(nodes, 1), ringByHand(nodes)} {
				for _, h := range [][][]int{emptyGraph(9), fullGraph(9), mixedGraph(9, 1), ringByHand(9)} {
					x := exponentialByHand(k, g, h)
					for _, row := range [][]int{numbersFrom(0, nodes), numbersFrom(9-nodes, nodes), make([]int, nodes)} {
						checkLifted(t, x, row)
						checkLowered(t, x, row)
					}
				}
			}
		}
	}
	self := numbersFrom(0, 9)
	if e := impl.LiftedOf(ringByHand(9), loopNode(), ringByHand(9), self); !slices.Equal(e, self) {
		t.Fatal(e)
	}
	if f := impl.LoweredOf(ringByHand(9), plainNode(), ringByHand(9), self); !slices.Equal(f, self) {
		t.Fatal(f)
	}
}

func TestLiftedAndLoweredOfSomeMaps(t *testing.T) {
	arrow, edge := [][]int{{0, 1}, {0, 0}}, [][]int{{0, 1}, {1, 0}}
	if e := impl.LiftedOf(arrow, plainNode(), fullGraph(9), []int{8, 3}); !slices.Equal(e, []int{8, 3}) {
		t.Fatal(e)
	}
	// The pairs 00, 01, 02, 10, 11, 12 are led to 0, 1, 1, 1, 0, 1: the rows 0 1 1 and 1 0 1, the numbers 3 and 5.
	if e := impl.LiftedOf(arrow, emptyGraph(3), edge, []int{0, 1, 1, 1, 0, 1}); !slices.Equal(e, []int{3, 5}) {
		t.Fatal(e)
	}
	if f := impl.LoweredOf(arrow, emptyGraph(3), edge, []int{3, 5}); !slices.Equal(f, []int{0, 1, 1, 1, 0, 1}) {
		t.Fatal(f)
	}
	// The pairs 00, 01, 10, 11, 20, 21 are led to 2, 1, 0, 2, 1, 1: the numbers 7, 2 and 4.
	if e := impl.LiftedOf(emptyGraph(3), arrow, ringByHand(3), []int{2, 1, 0, 2, 1, 1}); !slices.Equal(e, []int{7, 2, 4}) {
		t.Fatal(e)
	}
	if f := impl.LoweredOf(emptyGraph(3), arrow, ringByHand(3), []int{7, 2, 4}); !slices.Equal(f, []int{2, 1, 0, 2, 1, 1}) {
		t.Fatal(f)
	}
}

func TestPowersHaveAtMostMaxNodes(t *testing.T) {
	for base, most := range mostInExponent() {
		for nodes := 1; nodes <= 9; nodes++ {
			for _, h := range [][][]int{emptyGraph(base), fullGraph(base), mixedGraph(base, 1)} {
				for _, g := range [][][]int{emptyGraph(nodes), fullGraph(nodes), mixedGraph(nodes, 2)} {
					checkSizeOfPower(t, h, g, nodes <= most)
				}
			}
		}
	}
}

func checkSizeOfPower(t *testing.T, h, g [][]int, told bool) {
	t.Helper()
	rows, size, number := 0, 0, -1
	if told {
		rows, size, number = powerOf(len(h), len(g)), len(g), 0
	}
	if x, ok := impl.PowerOf(h, g); ok != told || len(x) != rows {
		t.Fatal("the power of", h, "with", g, "is told:", ok, x)
	}
	for at := -1; at <= 10; at++ {
		if row := impl.RowAt(h, g, at); len(row) != size && at >= 0 && at < rows || len(row) != 0 && (at < 0 || at >= rows) {
			t.Fatal("the power of", h, "with", g, "has at", at, "the row", row)
		}
	}
	if at := impl.NumberAt(h, g, make([]int, len(g))); at != number {
		t.Fatal("the power of", h, "with", g, "has the first row at", at)
	}
	// Of one node without arrows neither the product nor the graph itself has any, so that nothing but the number of nodes keeps the maps from being told.
	if e := impl.LiftedOf(plainNode(), g, h, make([]int, len(g))); told != slices.Equal(e, []int{0}) || !told && len(e) != 0 {
		t.Fatal(g, h, "lifted is", e)
	}
	if f := impl.LoweredOf(plainNode(), g, h, []int{0}); len(f) != size {
		t.Fatal(g, h, "lowered is", f)
	}
}

func TestProductsOfLiftedHaveAtMostMaxNodes(t *testing.T) {
	for first := 1; first <= 9; first++ {
		for nodes := 1; nodes <= 9; nodes++ {
			told, noughts := first*nodes <= 9, make([]int, first*nodes)
			for _, k := range [][][]int{emptyGraph(first), fullGraph(first)} {
				for _, g := range [][][]int{emptyGraph(nodes), fullGraph(nodes)} {
					e := impl.LiftedOf(k, g, loopNode(), noughts)
					f := impl.LoweredOf(k, g, loopNode(), make([]int, first))
					if told && (!slices.Equal(e, make([]int, first)) || !slices.Equal(f, noughts)) {
						t.Fatal(first, nodes, e, f)
					}
					if !told && (len(e) != 0 || len(f) != 0) {
						t.Fatal(first, nodes, e, f)
					}
				}
			}
		}
	}
}

// One node with an arrow to itself has itself as its power; without one, it has that arrow only if the exponent has none.
func TestPowersOfOneNode(t *testing.T) {
	for _, g := range manyGraphs() {
		noughts, one := make([]int, len(g)), 1
		for _, row := range g {
			if slices.Contains(row, 1) {
				one = 0
			}
		}
		for _, two := range []struct{ h, want [][]int }{{loopNode(), loopNode()}, {plainNode(), [][]int{{one}}}} {
			if x, ok := impl.PowerOf(two.h, g); !ok || !sameRows(x, two.want) {
				t.Fatal("the power of", two.h, "with", g, "is", x, ok)
			}
			if row := impl.RowAt(two.h, g, 0); !slices.Equal(row, noughts) {
				t.Fatal(two.h, g, row)
			}
			if number := impl.NumberAt(two.h, g, noughts); number != 0 {
				t.Fatal(two.h, g, number)
			}
			for _, k := range [][][]int{plainNode(), loopNode()} {
				x := exponential{k, g, two.h, timesByHand(k, g), two.want}
				checkLifted(t, x, noughts)
				checkLowered(t, x, []int{0})
			}
		}
	}
}

// One node with an arrow to itself, as an exponent, leaves a graph as it is; without it, all arrows are there.
func TestPowersWithOneNode(t *testing.T) {
	for _, h := range manyGraphs() {
		self := numbersFrom(0, len(h))
		for _, two := range []struct{ g, want [][]int }{{loopNode(), h}, {plainNode(), fullGraph(len(h))}} {
			if x, ok := impl.PowerOf(h, two.g); !ok || !sameRows(x, two.want) {
				t.Fatal("the power of", h, "with", two.g, "is", x, ok)
			}
			for node := range h {
				if row := impl.RowAt(h, two.g, node); !slices.Equal(row, []int{node}) || impl.NumberAt(h, two.g, row) != node {
					t.Fatal(h, two.g, node, row)
				}
			}
			if e := impl.LiftedOf(h, two.g, h, self); !slices.Equal(e, self) {
				t.Fatal(h, two.g, "lifted is", e)
			}
			if f := impl.LoweredOf(h, two.g, h, self); !slices.Equal(f, self) {
				t.Fatal(h, two.g, "lowered is", f)
			}
		}
	}
}

// Where the exponent has no arrows each row has one to each; where only the base has none, no row has any.
func TestPowersOfGraphsWithoutArrows(t *testing.T) {
	for _, pair := range powerPairs() {
		h, g := pair[0], pair[1]
		rows := powerOf(len(h), len(g))
		if x, ok := impl.PowerOf(h, emptyGraph(len(g))); !ok || !sameRows(x, fullGraph(rows)) {
			t.Fatal("the power of", h, "with", len(g), "nodes without arrows is", x)
		}
		want := emptyGraph(rows)
		if impl.ArrowsIn(g) == 0 {
			want = fullGraph(rows)
		}
		if x, ok := impl.PowerOf(emptyGraph(len(h)), g); !ok || !sameRows(x, want) {
			t.Fatal("the power of", len(h), "nodes without arrows with", g, "is", x)
		}
	}
	arrow, bare := [][]int{{0, 1}, {0, 0}}, emptyGraph(2)
	if e := impl.LiftedOf(arrow, arrow, bare, make([]int, 4)); len(e) != 0 {
		t.Fatal("an arrow is led to none", e)
	}
	if f := impl.LoweredOf(arrow, arrow, bare, []int{0, 0}); len(f) != 0 {
		t.Fatal("an arrow is led to none", f)
	}
	if e := impl.LiftedOf(arrow, bare, bare, []int{0, 1, 1, 0}); !slices.Equal(e, []int{1, 2}) {
		t.Fatal(e)
	}
	if f := impl.LoweredOf(bare, arrow, bare, []int{2, 1}); !slices.Equal(f, []int{1, 0, 0, 1}) {
		t.Fatal(f)
	}
}

// One node without arrows is led to any node, and each graph to one with an arrow to itself: so nothing but the bad graph keeps the answers from being told.
func TestBadGraphsHaveNoPowers(t *testing.T) {
	below, above, one := plainNode(), loopNode(), []int{0}
	for name, bad := range badGraphs() {
		all := [][]int{make([]int, len(bad)), make([]int, len(bad)*len(bad)), one, nil}
		for _, two := range [][2][][]int{{bad, below}, {above, bad}, {bad, bad}} {
			if x, ok := impl.PowerOf(two[0], two[1]); ok || len(x) != 0 {
				t.Error(name, "PowerOf", x, ok)
			}
			for number := -1; number <= 2; number++ {
				if row := impl.RowAt(two[0], two[1], number); len(row) != 0 {
					t.Error(name, "RowAt", number, row)
				}
			}
			for _, row := range all {
				if number := impl.NumberAt(two[0], two[1], row); number != -1 {
					t.Error(name, "NumberAt", row, number)
				}
			}
		}
		for _, three := range [][3][][]int{{bad, below, above}, {below, bad, above}, {below, below, bad}, {bad, bad, above}, {bad, bad, bad}} {
			for _, row := range all {
				if e := impl.LiftedOf(three[0], three[1], three[2], row); len(e) != 0 {
					t.Error(name, "LiftedOf", row, e)
				}
				if f := impl.LoweredOf(three[0], three[1], three[2], row); len(f) != 0 {
					t.Error(name, "LoweredOf", row, f)
				}
			}
		}
	}
}

// Without arrows in the exponent nothing but the numbers of a row keeps it from being a map.
func TestBadRowsAreNotLiftedNorLowered(t *testing.T) {
	for base, most := range mostInExponent() {
		for nodes := 1; nodes <= most; nodes++ {
			for first := 1; first*nodes <= 9; first++ {
				k, g, h := emptyGraph(first), emptyGraph(nodes), fullGraph(base)
				e, f := make([]int, first), make([]int, first*nodes)
				if x := impl.LiftedOf(k, g, h, f); !slices.Equal(x, e) {
					t.Fatal(first, nodes, base, x)
				}
				if x := impl.LoweredOf(k, g, h, e); !slices.Equal(x, f) {
					t.Fatal(first, nodes, base, x)
				}
				for _, row := range badRows(first*nodes, base) {
					if x := impl.LiftedOf(k, g, h, row); len(x) != 0 {
						t.Fatal("lifted", first, nodes, base, row, x)
					}
				}
				for _, row := range badRows(first, powerOf(base, nodes)) {
					if x := impl.LoweredOf(k, g, h, row); len(x) != 0 {
						t.Fatal("lowered", first, nodes, base, row, x)
					}
				}
			}
		}
	}
}

// A row of numbers of the base is no row of numbers of the power, nor the other way round, although it may be as long.
func TestRowsOfTheOtherSideAreNeitherLiftedNorLowered(t *testing.T) {
	k, g, h := emptyGraph(4), plainNode(), fullGraph(2)
	if e := impl.LiftedOf(k, g, h, []int{0, 1, 2, 3}); len(e) != 0 {
		t.Fatal(e)
	}
	k, g = emptyGraph(2), emptyGraph(2)
	if e := impl.LiftedOf(k, g, h, []int{3, 2}); len(e) != 0 {
		t.Fatal(e)
	}
	if f := impl.LoweredOf(k, g, h, []int{1, 1, 1, 0}); len(f) != 0 {
		t.Fatal(f)
	}
	if f := impl.LoweredOf(k, g, h, []int{3, 2}); !slices.Equal(f, []int{1, 1, 1, 0}) {
		t.Fatal(f)
	}
}

func TestArgumentsOfPowersAreNotWrittenTo(t *testing.T) {
	given := [][][]int{mixedGraph(3, 1), emptyGraph(3), fullGraph(3), fullGraph(4), emptyGraph(2), plainNode(), loopNode(), {{0, 2}, {0, 1}}, {{0, 1}, {0}}}
	for _, first := range given {
		for _, second := range given {
			for _, list := range [][]int{{0, 0, 0}, {0, 1, 2}, {2, 1, 7}, {1, 0}, {0, 0, 0, 0}, {0, 1, 1, 0, 1, 0}, {0}} {
				k, g, h, row := roomyRows(second), roomyRows(second), roomyRows(first), roomy(list)
				impl.PowerOf(h, g)
				impl.RowAt(h, g, 1)
				impl.NumberAt(h, g, row)
				impl.LiftedOf(k, g, h, row)
				impl.LoweredOf(k, g, h, row)
				if !unchangedRows(k, second) || !unchangedRows(g, second) || !unchangedRows(h, first) {
					t.Fatal("written to", first, second, "now", k, g, h)
				}
				if !unchangedRow(row, list) {
					t.Fatal("written to", list, "now", row)
				}
			}
		}
	}
}

// checkPowersAreNewMemory takes a base and an exponent.
func checkPowersAreNewMemory(t *testing.T, base, exponent [][]int) {
	t.Helper()
	bare, noughts, last := plainNode(), make([]int, len(exponent)), powerOf(len(base), len(exponent))-1
	for name, result := range map[string]func(h, g [][]int, l []int) [][]int{
		"PowerOf":     func(h, g [][]int, l []int) [][]int { x, _ := impl.PowerOf(h, g); return x },
		"first RowAt": func(h, g [][]int, l []int) [][]int { return [][]int{impl.RowAt(h, g, 0)} },
		"last RowAt":  func(h, g [][]int, l []int) [][]int { return [][]int{impl.RowAt(h, g, last)} },
		"LiftedOf":    func(h, g [][]int, l []int) [][]int { return [][]int{impl.LiftedOf(bare, g, h, l)} },
		"LoweredOf":   func(h, g [][]int, l []int) [][]int { return [][]int{impl.LoweredOf(bare, g, h, l[:1])} },
	} {
		checkNewMemory(t, name, base, exponent, noughts, result)
	}
}

func TestResultsOfPowersAreNewMemory(t *testing.T) {
	for _, pair := range powerPairs() {
		checkPowersAreNewMemory(t, pair[0], pair[1])
	}
	// With one node as the exponent what is lifted or lowered is the row itself again, but in new memory.
	for nodes := 1; nodes <= 9; nodes++ {
		full, self := fullGraph(nodes), numbersFrom(0, nodes)
		for name, result := range map[string]func(g, h [][]int, l []int) [][]int{
			"LiftedOf":  func(h, g [][]int, l []int) [][]int { return [][]int{impl.LiftedOf(h, g, h, l)} },
			"LoweredOf": func(h, g [][]int, l []int) [][]int { return [][]int{impl.LoweredOf(h, g, h, l)} },
		} {
			checkNewMemory(t, name, full, loopNode(), self, result)
		}
	}
}

// A graph may be all graphs at once, with rows that are one and the same slice.
func TestPowersMayShareArguments(t *testing.T) {
	row := []int{1, 1}
	g := [][]int{row, row}
	if x, ok := impl.PowerOf(g, g); !ok || !sameRows(x, fullGraph(4)) {
		t.Fatal(x, ok)
	}
	if number := impl.NumberAt(g, g, row); number != 3 {
		t.Fatal(number)
	}
	if f := impl.LoweredOf(g, g, g, row); !slices.Equal(f, []int{0, 1, 0, 1}) {
		t.Fatal(f)
	}
	if e := impl.LiftedOf(g, loopNode(), g, row); !slices.Equal(e, []int{1, 1}) || !slices.Equal(row, []int{1, 1}) {
		t.Fatal(e, row)
	}
}
