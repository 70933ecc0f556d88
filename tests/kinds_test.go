package tests

import (
	"math"
	"slices"
	"testing"

	"loop.example/graphmaps/impl"
)

// kindsByHand reports whether numbers come first one after the other, from 0 on.
func kindsByHand(row []int) bool {
	for at, kind := range row {
		next := 0
		if at > 0 {
			next = slices.Max(row[:at]) + 1
		}
		if kind < 0 || kind > next {
			return false
		}
	}
	return true
}

// kindsOfByHand are all rows of kinds of so many nodes, in the order of rows of numbers.
func kindsOfByHand(nodes int) [][]int {
	var list [][]int
	for _, row := range rowsOf(nodes, nodes) {
		if kindsByHand(row) {
			list = append(list, row)
		}
	}
	return list
}

func apartByHand(row []int) bool {
	for at, number := range row {
		if slices.Contains(row[:at], number) {
			return false
		}
	}
	return true
}

// largerKinds are some rows of kinds of more nodes than those of which all are told.
func largerKinds(nodes int) [][]int {
	list := [][]int{make([]int, nodes), numbersFrom(0, nodes)}
	for modulo := 2; modulo < nodes; modulo++ {
		turned, lastNew := make([]int, nodes), make([]int, nodes)
		for node := range nodes {
			turned[node] = node % modulo
			lastNew[node] = max(0, node-modulo)
		}
		list = append(list, turned, lastNew)
	}
	return list
}

// someSizes are all graphs of at most 3 nodes, and some of each larger size.
func someSizes() [][][]int {
	list := append(manyGraphs(), graphsOf5()...)
	for number := 0; number < 1<<16; number += 61 {
		list = append(list, graphNumbered(4, uint64(number)))
	}
	for nodes := 6; nodes <= 9; nodes++ {
		list = append(list, ringByHand(nodes), pathByHand(nodes), lineByHand(nodes), bareGraph(nodes, 1), bareGraph(nodes, 2))
	}
	return list
}

func TestP27OneKindForEachNodeIsWellAndOneForAll(t *testing.T) {
	for _, g := range append(allGraphs(4), someSizes()...) {
		if !impl.KindsOk(g, make([]int, len(g))) {
			t.Fatal("one kind for all nodes of", g)
		}
		if !impl.KindsOk(g, numbersFrom(0, len(g))) {
			t.Fatal("one kind for each node of", g)
		}
	}
}

// Here numbers are from -1 to one more than there can be kinds.
func TestKindsOkOfAllRows(t *testing.T) {
	for nodes := 1; nodes <= 5; nodes++ {
		held := 0
		for _, row := range rowsOf(nodes, nodes+2) {
			for at := range row {
				row[at]--
			}
			want := kindsByHand(row)
			for _, g := range [][][]int{emptyGraph(nodes), fullGraph(nodes), mixedGraph(nodes, 1)} {
				if impl.KindsOk(g, row) != want {
					t.Fatal(row, "are kinds of", g, want)
				}
			}
			if want {
				held++
			}
		}
		if held != bellNumbers()[nodes] {
			t.Fatal(nodes, "nodes have", held, "rows of kinds")
		}
	}
}

func TestKindsOkOfLargerGraphs(t *testing.T) {
	for nodes := 6; nodes <= 9; nodes++ {
		for _, row := range largerKinds(nodes) {
			for _, g := range [][][]int{emptyGraph(nodes), fullGraph(nodes), mixedGraph(nodes, 1)} {
				if !impl.KindsOk(g, row) {
					t.Fatal(row, "are kinds of", g)
				}
				for at := range row {
					for number := -1; number <= nodes+1; number++ {
						other := slices.Clone(row)
						other[at] = number
						if want := kindsByHand(other); impl.KindsOk(g, other) != want {
							t.Fatal(other, "are kinds of", g, want)
						}
					}
				}
			}
		}
	}
}

// bellNumbers tell how many rows of kinds there are for so many nodes.
func bellNumbers() []int {
	return []int{1, 1, 2, 5, 15, 52}
}

func TestP28KindsAreCountedByBell(t *testing.T) {
	kept := map[int][][]int{}
	for nodes := 1; nodes <= 5; nodes++ {
		kept[nodes] = kindsOfByHand(nodes)
	}
	for _, g := range coredGraphs() {
		list := impl.AllKinds(g)
		if len(list) != bellNumbers()[len(g)] {
			t.Fatal(g, "has", len(list), "rows of kinds")
		}
		for at, row := range list {
			if !impl.KindsOk(g, row) || at > 0 && slices.Compare(list[at-1], row) >= 0 {
				t.Fatal(g, list, "at", at)
			}
		}
		if !sameRows(list, kept[len(g)]) {
			t.Fatal(g, "has the rows of kinds", list, "want", kept[len(g)])
		}
	}
}

func TestAllKindsOfFewNodes(t *testing.T) {
	for nodes, want := range [][][]int{
		1: {{0}},
		2: {{0, 0}, {0, 1}},
		3: {{0, 0, 0}, {0, 0, 1}, {0, 1, 0}, {0, 1, 1}, {0, 1, 2}},
		4: {
			{0, 0, 0, 0}, {0, 0, 0, 1}, {0, 0, 1, 0}, {0, 0, 1, 1}, {0, 0, 1, 2},
			{0, 1, 0, 0}, {0, 1, 0, 1}, {0, 1, 0, 2}, {0, 1, 1, 0}, {0, 1, 1, 1}, {0, 1, 1, 2},
			{0, 1, 2, 0}, {0, 1, 2, 1}, {0, 1, 2, 2}, {0, 1, 2, 3},
		},
	} {
		if nodes == 0 {
			continue
		}
		for _, g := range [][][]int{emptyGraph(nodes), fullGraph(nodes), ringByHand(nodes)} {
			if list := impl.AllKinds(g); !sameRows(list, want) {
				t.Fatal(g, list)
			}
		}
	}
}

func TestAllKindsAreOfAtMost5Nodes(t *testing.T) {
	for _, g := range someSizes() {
		if list := impl.AllKinds(g); (len(list) > 0) != (len(g) <= 5) {
			t.Fatal(g, list)
		}
	}
}

// kindsFor are all rows of kinds of a graph, or some if it has more than 5 nodes.
func kindsFor(g [][]int) [][]int {
	if len(g) > 5 {
		return largerKinds(len(g))
	}
	return kindsOfByHand(len(g))
}

// checkArrowsOfKinds looks for an arrow between nodes of both kinds for each arrow of the graph of kinds, and for no other.
func checkArrowsOfKinds(t *testing.T, g, h [][]int, kinds []int) {
	t.Helper()
	for first, row := range h {
		for second, number := range row {
			found := false
			for from := range g {
				for to := range g {
					found = found || g[from][to] == 1 && kinds[from] == first && kinds[to] == second
				}
			}
			if found != (number == 1) {
				t.Fatal("of", g, "with the kinds", kinds, "there is", h, "but from", first, "to", second, "there is an arrow:", found)
			}
		}
	}
}

func TestP29NodesAreLedToTheirKinds(t *testing.T) {
	for _, g := range someSizes() {
		for _, kinds := range kindsFor(g) {
			h := impl.GraphOfKinds(g, kinds)
			if len(h) != slices.Max(kinds)+1 || !impl.MapOk(g, h, kinds) {
				t.Fatal(kinds, "is no map from", g, "to", h)
			}
			checkArrowsOfKinds(t, g, h, kinds)
		}
		if h := impl.GraphOfKinds(g, numbersFrom(0, len(g))); !sameRows(h, g) {
			t.Fatal("with one kind for each node", g, "is", h)
		}
	}
}

// With one kind for all there is one node, with an arrow to itself if there is any arrow.
func TestGraphsOfOneKind(t *testing.T) {
	for _, g := range someSizes() {
		want := plainNode()
		if impl.ArrowsIn(g) > 0 {
			want = loopNode()
		}
		if h := impl.GraphOfKinds(g, make([]int, len(g))); !sameRows(h, want) {
			t.Fatal("with one kind for all nodes", g, "is", h)
		}
	}
}

func TestGraphsOfSomeKinds(t *testing.T) {
	for _, one := range []struct {
		text  string
		kinds []int
		want  string
	}{
		{"", []int{0}, ""},
		{"0", []int{0}, "0"},
		{"1/", []int{0, 0}, "0"},
		{"/0", []int{0, 1}, "/0"},
		{"/", []int{0, 0}, ""},
		{"1/2/", []int{0, 1, 0}, "1/0"},
		{"1/2/", []int{0, 1, 1}, "1/1"},
		{"1/2/", []int{0, 0, 1}, "01/"},
		{"1/2/3/4/0", []int{0, 1, 0, 1, 2}, "1/02/0"},
		{"1/2/3/0", []int{0, 1, 0, 1}, "1/0"},
		{"1//3/", []int{0, 1, 1, 0}, "1/0"},
		{"1//3/", []int{0, 1, 0, 1}, "1/"},
		{"////", []int{0, 1, 2, 1, 0}, "//"},
		{"1/2/3/4/5/6/7/8/0", []int{0, 1, 2, 0, 1, 2, 0, 1, 2}, "1/2/0"},
	} {
		if h := impl.GraphOfKinds(readGraph(t, one.text), one.kinds); !sameRows(h, readGraph(t, one.want)) {
			t.Errorf("%q with the kinds %v is %v, not %q", one.text, one.kinds, h, one.want)
		}
	}
}

// largerMap is a map of graphs of which not all rows are few.
type largerMap struct {
	g, h [][]int
	row  []int
}

// largerMaps lead nodes to themselves, to the last one, and to a few or to all in another order than that of their numbers.
func largerMaps() []largerMap {
	var list []largerMap
	for first := 5; first <= 9; first++ {
		for second := 6; second <= 9; second++ {
			falling, few := make([]int, first), make([]int, first)
			for node := range first {
				falling[node] = (second + second - 1 - node) % second
				few[node] = second - 1 - node%3
			}
			onLast := slices.Repeat([]int{second - 1}, first)
			for _, g := range [][][]int{emptyGraph(first), fullGraph(first), ringByHand(first), mixedGraph(first, 1)} {
				for _, row := range [][]int{falling, few, onLast} {
					list = append(list, largerMap{g, fullGraph(second), row})
				}
				list = append(list, largerMap{g, g, numbersFrom(0, first)})
			}
		}
	}
	return list
}

// forEachRow calls for rows of the right nodes between graphs of many sizes, maps and others.
func forEachRow(check func(g, h [][]int, row []int)) {
	kept := rowsBetween{}
	for _, pair := range smallPairs() {
		for _, row := range kept.rows(pair[0], pair[1]) {
			check(pair[0], pair[1], row)
		}
	}
	for _, g := range allGraphs(3) {
		for _, row := range kept.rows(g, g) {
			check(g, g, row)
		}
	}
	for _, pair := range fewPairs() {
		rows := kept.rows(pair[0], pair[1])
		for _, row := range append(someOf(mapsByHand(pair[0], pair[1], rows), 20), someOf(rows, 20)...) {
			check(pair[0], pair[1], row)
		}
	}
	for _, one := range largerMaps() {
		check(one.g, one.h, one.row)
	}
}

func TestP30MapsPutNodesIntoKinds(t *testing.T) {
	forEachRow(func(g, h [][]int, row []int) {
		kinds := impl.KindsBy(g, h, row)
		if !mapByHand(g, h, row) {
			if len(kinds) != 0 {
				t.Fatal(row, "is no map from", g, "to", h, "but has the kinds", kinds)
			}
			return
		}
		if !impl.KindsOk(g, kinds) || !kindsByHand(kinds) || len(kinds) != len(g) {
			t.Fatal(row, "from", g, "to", h, "has", kinds, "which are no kinds")
		}
		for node := range row {
			for other := range row {
				if (kinds[node] == kinds[other]) != (row[node] == row[other]) {
					t.Fatal(row, "from", g, "to", h, "has the kinds", kinds)
				}
			}
		}
	})
}

func TestP31EachMapFallsApartInTwo(t *testing.T) {
	forEachRow(func(g, h [][]int, row []int) {
		from := impl.FromKinds(g, h, row)
		if !mapByHand(g, h, row) {
			if len(from) != 0 {
				t.Fatal(row, "is no map from", g, "to", h, "but from kinds it is", from)
			}
			return
		}
		kinds := impl.KindsBy(g, h, row)
		between := impl.GraphOfKinds(g, kinds)
		if len(from) != len(between) || !impl.MapOk(between, h, from) || !impl.ApartOk(between, h, from) || !apartByHand(from) {
			t.Fatal(row, "from", g, "to", h, "is from kinds", from, "from", between)
		}
		if again := impl.BehindOf(g, between, h, kinds, from); !slices.Equal(again, row) {
			t.Fatal(row, "from", g, "to", h, "falls apart in", kinds, from, "but these make", again)
		}
		for node, kind := range kinds {
			if from[kind] != row[node] {
				t.Fatal(row, "from", g, "to", h, "has the kinds", kinds, "led to", from)
			}
		}
	})
}

func TestP32ApartIsOneKindForEach(t *testing.T) {
	apart, others := 0, 0
	forEachRow(func(g, h [][]int, row []int) {
		holds := impl.ApartOk(g, h, row)
		if holds != (mapByHand(g, h, row) && apartByHand(row)) {
			t.Fatal(row, "from", g, "to", h, "is apart:", holds)
		}
		if different := slices.Equal(impl.KindsBy(g, h, row), numbersFrom(0, len(g))); different != holds {
			t.Fatal(row, "from", g, "to", h, "is apart:", holds, "but all kinds are different:", different)
		}
		if holds && (impl.ArrowsIn(h) < impl.ArrowsIn(g) || len(h) < len(g)) {
			t.Fatal(row, "from", g, "to", h, "is apart, but there are fewer arrows or nodes")
		}
		if holds {
			apart++
		} else {
			others++
		}
	})
	if apart == 0 || others == 0 {
		t.Fatal("there are so many apart and so many others:", apart, others)
	}
}

// Kinds are numbered as they come first, whatever the order of the nodes to which they are led.
func TestSomeMapsFallApart(t *testing.T) {
	for _, one := range []struct {
		row, kinds, from []int
		apart            bool
	}{
		{[]int{8, 3, 8, 0, 3}, []int{0, 1, 0, 2, 1}, []int{8, 3, 0}, false},
		{[]int{2, 0, 2, 1, 0}, []int{0, 1, 0, 2, 1}, []int{2, 0, 1}, false},
		{[]int{0, 1, 0, 2, 1}, []int{0, 1, 0, 2, 1}, []int{0, 1, 2}, false},
		{[]int{7, 7, 7, 7, 7}, []int{0, 0, 0, 0, 0}, []int{7}, false},
		{[]int{0, 0, 0, 0, 0}, []int{0, 0, 0, 0, 0}, []int{0}, false},
		{[]int{7, 6, 5, 4, 3}, []int{0, 1, 2, 3, 4}, []int{7, 6, 5, 4, 3}, true},
		{[]int{0, 1, 2, 3, 4}, []int{0, 1, 2, 3, 4}, []int{0, 1, 2, 3, 4}, true},
		{[]int{5, 6, 7, 8, 5}, []int{0, 1, 2, 3, 0}, []int{5, 6, 7, 8}, false},
		{[]int{4, 4, 3, 2, 1}, []int{0, 0, 1, 2, 3}, []int{4, 3, 2, 1}, false},
	} {
		for _, g := range [][][]int{emptyGraph(5), ringByHand(5), fullGraph(5)} {
			h := fullGraph(9)
			if kinds := impl.KindsBy(g, h, one.row); !slices.Equal(kinds, one.kinds) {
				t.Error(g, one.row, "has the kinds", kinds)
			}
			if from := impl.FromKinds(g, h, one.row); !slices.Equal(from, one.from) {
				t.Error(g, one.row, "is from kinds", from)
			}
			if impl.ApartOk(g, h, one.row) != one.apart {
				t.Error(g, one.row, "is apart:", !one.apart)
			}
		}
	}
}

func TestMapsOfOneNodeFallApart(t *testing.T) {
	for _, h := range manyGraphs() {
		for node := range h {
			for _, g := range [][][]int{plainNode(), loopNode()} {
				row, isMap := []int{node}, g[0][0] <= h[node][node]
				kinds, from := impl.KindsBy(g, h, row), impl.FromKinds(g, h, row)
				if isMap && (!slices.Equal(kinds, []int{0}) || !slices.Equal(from, row)) || !isMap && len(kinds)+len(from) > 0 {
					t.Fatal(g, h, row, kinds, from)
				}
				if impl.ApartOk(g, h, row) != isMap {
					t.Fatal(g, h, row, "is apart:", !isMap)
				}
			}
		}
	}
}

// checkMapsOfKinds takes a graph of at most 5 nodes.
func checkMapsOfKinds(t *testing.T, g, h [][]int) {
	t.Helper()
	sum := 0
	for _, kinds := range impl.AllKinds(g) {
		sum += impl.CountApart(impl.GraphOfKinds(g, kinds), h)
	}
	if count := impl.CountOf(g, h); count != sum {
		t.Fatal("from", g, "to", h, "there are", count, "maps, but of kinds", sum)
	}
}

func TestP33AllMapsAreMapsOfKinds(t *testing.T) {
	for _, pair := range smallPairs() {
		checkMapsOfKinds(t, pair[0], pair[1])
	}
	of3 := allGraphs(3)[18:]
	for at, g := range of3 {
		for other := at % 7; other < len(of3); other += 7 {
			checkMapsOfKinds(t, g, of3[other])
		}
	}
}

func TestP33OfLargerGraphs(t *testing.T) {
	for _, pair := range fewPairs() {
		if len(pair[0]) <= 5 {
			checkMapsOfKinds(t, pair[0], pair[1])
		}
	}
	for at, g := range graphsOf5() {
		for _, h := range [][][]int{fullGraph(2), ringByHand(3), lineByHand(4), fullGraph(4), bareGraph(5, uint64(at)), g} {
			checkMapsOfKinds(t, g, h)
		}
	}
}

func countApartByHand(g, h, rows [][]int) int {
	count := 0
	for _, row := range mapsByHand(g, h, rows) {
		if apartByHand(row) {
			count++
		}
	}
	return count
}

func TestCountApartByHand(t *testing.T) {
	kept := rowsBetween{}
	pairs := append(smallPairs(), fewPairs()...)
	for number, g := range allGraphs(3) {
		pairs = append(pairs, [2][][]int{g, g}, [2][][]int{g, mixedGraph(4, uint64(number))}, [2][][]int{g, mixedGraph(9, uint64(number))})
	}
	for _, pair := range pairs {
		g, h := pair[0], pair[1]
		if count, want := impl.CountApart(g, h), countApartByHand(g, h, kept.rows(g, h)); count != want {
			t.Fatal("from", g, "to", h, "there are apart", count, "want", want)
		}
	}
}

// A map to itself that leads no two nodes to one leads no two arrows to one, so that it leaves the graph as it is.
func TestApartFromAGraphToItselfAreTurns(t *testing.T) {
	for _, g := range coredGraphs() {
		if count, turns := impl.CountApart(g, g), impl.TurnsOf(g); count != turns {
			t.Fatal(g, "has", turns, "turns, but apart are", count)
		}
	}
}

// Between graphs without arrows, and to those with all, each row is a map.
func TestCountApartAsFarAsMapsAreFew(t *testing.T) {
	for second, most := range mostNodes() {
		for first := 1; first <= 9; first++ {
			want := 1
			for node := range first {
				want *= max(0, second-node)
			}
			if first > most {
				want = -1
			}
			for _, two := range [][2][][]int{{emptyGraph(first), emptyGraph(second)}, {emptyGraph(first), fullGraph(second)}, {fullGraph(first), fullGraph(second)}} {
				if count := impl.CountApart(two[0], two[1]); count != want {
					t.Fatal("from", first, "nodes to", second, "there are apart", count, "want", want)
				}
			}
		}
	}
}

func TestCountApartOfSomeGraphs(t *testing.T) {
	for _, one := range []struct {
		g, h  string
		count int
	}{
		{"", "", 1},
		{"", "0", 1},
		{"0", "", 0},
		{"0", "0", 1},
		{"0", "0/12/", 2},
		{"0", "0//2", 2},
		{"/", "0", 0},
		{"1/", "0/", 0},
		{"1/", "12/2/", 3},
		{"1/2/", "1/0", 0},
		{"1/0", "1/0", 2},
		{"1/2/", "1/2/3/4/", 3},
		{"1/2/0", "1/2/3/0", 0},
		{"1/2/0", "12/02/01", 6},
		{"1/2/3/4/0", "1/2/3/4/0", 5},
		{"1/2/3/4/0", "1/2/3/4/5/0", -1},
	} {
		if count := impl.CountApart(readGraph(t, one.g), readGraph(t, one.h)); count != one.count {
			t.Errorf("from %q to %q there are apart %d, not %d", one.g, one.h, count, one.count)
		}
	}
}

// badKinds are no rows of kinds of so many nodes.
func badKinds(nodes int) [][]int {
	all, each := make([]int, nodes), numbersFrom(0, nodes)
	bad := [][]int{all[1:], each[:nodes-1], append(slices.Clone(all), 0), append(slices.Clone(all), 1), append(slices.Clone(each), nodes), append(slices.Clone(each), 0), numbersFrom(1, nodes), slices.Repeat([]int{1}, nodes), slices.Repeat([]int{-1}, nodes)}
	if nodes > 1 {
		falling := slices.Clone(each)
		slices.Reverse(falling)
		bad = append(bad, nil, []int{0}, falling)
	}
	for at := range nodes {
		for _, number := range []int{-1, -2, nodes, at + 1, at + 2, 256, 1 << 32, math.MinInt, math.MaxInt} {
			other, allBut := slices.Clone(each), slices.Clone(all)
			other[at] = number
			bad = append(bad, other)
			if number != 1 || at == 0 {
				allBut[at] = number
				bad = append(bad, allBut)
			}
		}
	}
	return bad
}

func TestBadKinds(t *testing.T) {
	for nodes := 1; nodes <= 9; nodes++ {
		for _, g := range [][][]int{emptyGraph(nodes), fullGraph(nodes), mixedGraph(nodes, 1)} {
			for _, row := range badKinds(nodes) {
				if impl.KindsOk(g, row) {
					t.Fatal(row, "are kinds of", g)
				}
				if h := impl.GraphOfKinds(g, row); len(h) != 0 {
					t.Fatal(row, "are no kinds of", g, "but there is", h)
				}
			}
		}
	}
}

func checkNoKindsOfMap(t *testing.T, g, h [][]int, row []int) {
	t.Helper()
	if kinds := impl.KindsBy(g, h, row); len(kinds) != 0 {
		t.Fatal("KindsBy", g, h, row, kinds)
	}
	if from := impl.FromKinds(g, h, row); len(from) != 0 {
		t.Fatal("FromKinds", g, h, row, from)
	}
	if impl.ApartOk(g, h, row) {
		t.Fatal("ApartOk", g, h, row)
	}
}

func TestBadGraphsHaveNoKinds(t *testing.T) {
	for name, bad := range badGraphs() {
		if list := impl.AllKinds(bad); len(list) != 0 {
			t.Error(name, "AllKinds", list)
		}
		for _, row := range [][]int{make([]int, len(bad)), numbersFrom(0, len(bad)), {0}, nil} {
			if impl.KindsOk(bad, row) {
				t.Error(name, "KindsOk", row)
			}
			if h := impl.GraphOfKinds(bad, row); len(h) != 0 {
				t.Error(name, "GraphOfKinds", row, h)
			}
			for _, two := range [][2][][]int{{bad, loopNode()}, {plainNode(), bad}, {bad, bad}, {bad, fullGraph(9)}} {
				checkNoKindsOfMap(t, two[0], two[1], row)
				if count := impl.CountApart(two[0], two[1]); count != -1 {
					t.Error(name, "CountApart", count)
				}
			}
		}
	}
}

// With all arrows in the second graph nothing but the numbers of a row keeps it from being a map.
func TestBadRowsHaveNoKinds(t *testing.T) {
	for first := 1; first <= 9; first++ {
		for second := 1; second <= 9; second++ {
			for _, row := range badRows(first, second) {
				checkNoKindsOfMap(t, emptyGraph(first), fullGraph(second), row)
			}
		}
	}
	for nodes := 2; nodes <= 9; nodes++ {
		checkNoKindsOfMap(t, ringByHand(nodes), emptyGraph(nodes), numbersFrom(0, nodes))
		checkNoKindsOfMap(t, ringByHand(nodes), ringByHand(nodes), make([]int, nodes))
	}
}

func TestArgumentsOfKindsAreNotWrittenTo(t *testing.T) {
	given := [][][]int{mixedGraph(3, 1), emptyGraph(3), fullGraph(3), ringByHand(3), bareGraph(5, 1), emptyGraph(2), loopNode(), emptyGraph(6), {{0, 2}, {0, 1}}, {{0, 1}, {0}}}
	for _, first := range given {
		for _, second := range given {
			for _, list := range [][]int{{0, 0, 0}, {2, 1, 2}, {0, 1, 0}, {0, 1, 2}, {2, 1, 7}, {4, 1, 2, 3, 4}, {0, 1, 1}, {1, 1}, {0}, {0, 1, 2, 0, 3, 1}} {
				g, h, f := roomyRows(first), roomyRows(second), roomy(list)
				impl.KindsOk(g, f)
				impl.AllKinds(g)
				impl.GraphOfKinds(g, f)
				impl.KindsBy(g, h, f)
				impl.FromKinds(g, h, f)
				impl.ApartOk(g, h, f)
				impl.CountApart(g, h)
				if !unchangedRows(g, first) || !unchangedRows(h, second) || !unchangedRow(f, list) {
					t.Fatal("written to", first, second, list, "now", g, h, f)
				}
			}
		}
	}
}

func TestResultsOfKindsAreNewMemory(t *testing.T) {
	for nodes := 1; nodes <= 5; nodes++ {
		all, each := make([]int, nodes), numbersFrom(0, nodes)
		for _, g := range [][][]int{emptyGraph(nodes), fullGraph(nodes), ringByHand(nodes), bareGraph(nodes, 3)} {
			for name, result := range map[string]func(g, h [][]int, l []int) [][]int{
				"AllKinds":     func(g, h [][]int, l []int) [][]int { return impl.AllKinds(g) },
				"GraphOfKinds": func(g, h [][]int, l []int) [][]int { return impl.GraphOfKinds(g, l) },
				"KindsBy":      func(g, h [][]int, l []int) [][]int { return [][]int{impl.KindsBy(g, h, l)} },
				"FromKinds":    func(g, h [][]int, l []int) [][]int { return [][]int{impl.FromKinds(g, h, l)} },
			} {
				checkNewMemory(t, name, g, g, each, result)
				checkNewMemory(t, name, g, fullGraph(9), all, result)
			}
		}
	}
}

// A graph may have rows that are one and the same slice, which may be the map or the kinds as well.
func TestKindsMayShareArguments(t *testing.T) {
	row := []int{0, 1}
	g := [][]int{row, row}
	if h := impl.GraphOfKinds(g, row); !impl.KindsOk(g, row) || !sameRows(h, g) {
		t.Fatal(h)
	}
	if kinds, from := impl.KindsBy(g, g, row), impl.FromKinds(g, g, row); !slices.Equal(kinds, row) || !slices.Equal(from, row) {
		t.Fatal(kinds, from)
	}
	if !impl.ApartOk(g, g, row) || impl.CountApart(g, g) != 1 || !slices.Equal(row, []int{0, 1}) {
		t.Fatal(impl.CountApart(g, g), row)
	}
}
