package tests

import (
	"math"
	"slices"
	"sync"
	"testing"

	"loop.example/graphmaps/impl"
)

// mixedOrder is one of many orders of so many nodes, always the same one for the same numbers.
func mixedOrder(nodes int, number uint64) []int {
	state := number*104729 + uint64(nodes)
	order := numbersFrom(0, nodes)
	for last := nodes - 1; last > 0; last-- {
		state = state*6364136223846793005 + 1442695040888963407
		other := int(state>>33) % (last + 1)
		order[last], order[other] = order[other], order[last]
	}
	return order
}

// withArrows is a copy of a graph with those of its arrows only for which a function holds.
func withArrows(g [][]int, holds func(from, to int) bool) [][]int {
	h := copyOf(g)
	for from, row := range h {
		for to := range row {
			if !holds(from, to) {
				row[to] = 0
			}
		}
	}
	return h
}

// fallingGraph has no walk that comes to a node again, whatever the numbers of its nodes.
func fallingGraph(nodes int, number uint64) [][]int {
	g := withArrows(mixedGraph(nodes, number), func(from, to int) bool { return from < to })
	return partByHand(g, mixedOrder(nodes, number))
}

// levelledGraph is below the ring of so many nodes, and perhaps below others.
func levelledGraph(nodes, modulo int, number uint64) [][]int {
	order := mixedOrder(nodes, number)
	return withArrows(mixedGraph(nodes, number), func(from, to int) bool { return order[to]%modulo == (order[from]+1)%modulo })
}

// pathlikeGraphs are graphs with few arrows, in one part or in several, of so many nodes.
func pathlikeGraphs(nodes int) [][][]int {
	list := [][][]int{pathByHand(nodes), lineByHand(nodes), ringByHand(nodes)}
	list = append(list, turnedByHand(pathByHand(nodes)), bothWaysByHand(pathByHand(nodes)))
	for number := range uint64(12) {
		order := mixedOrder(nodes, number)
		list = append(list, fallingGraph(nodes, number), partByHand(pathByHand(nodes), order), partByHand(ringByHand(nodes), order))
		list = append(list, withArrows(bareGraph(nodes, 2*number+1), func(from, to int) bool { return (from+to+int(number))%3 > 0 }))
		for modulo := 2; modulo <= nodes; modulo++ {
			list = append(list, levelledGraph(nodes, modulo, number))
		}
	}
	return list
}

// pathGraphs are all graphs of at most 3 nodes, and some of each larger size.
func pathGraphs() [][][]int {
	list := append(manyGraphs(), graphsOf5()...)
	for nodes := 4; nodes <= 9; nodes++ {
		list = append(list, pathlikeGraphs(nodes)...)
	}
	return list
}

// graphsOf4 are all graphs of 4 nodes, but only each of so many.
func graphsOf4(every int) [][][]int {
	var list [][][]int
	for number := 0; number < 1<<16; number += every {
		list = append(list, graphNumbered(4, uint64(number)))
	}
	return list
}

// heightsByHand are the steps of the longest walk that ends at each node, at most 9 of them: it asks where walks of so many nodes end.
func heightsByHand(g [][]int) []int {
	heights, ends := make([]int, len(g)), slices.Repeat([]bool{true}, len(g))
	for steps := 1; steps <= 9; steps++ {
		longer := make([]bool, len(g))
		for from := range g {
			for to := range g {
				longer[to] = longer[to] || ends[from] && g[from][to] == 1
			}
		}
		ends = longer
		for node := range g {
			if ends[node] {
				heights[node] = steps
			}
		}
	}
	return heights
}

func longestByHand(g [][]int) (int, bool) {
	if most := slices.Max(heightsByHand(g)); most < 9 {
		return most + 1, true
	}
	return -1, false
}

// countedByHand tells for each node what a way to it from the least node of its part counts, where an arrow against the way counts -1, and the greatest number that divides what ways that close count; 0 if all of these count 0.
func countedByHand(g [][]int) ([]int, int) {
	counted, seen, divisor := make([]int, len(g)), make([]bool, len(g)), 0
	var visit func(node int)
	visit = func(node int) {
		seen[node] = true
		for other := range g {
			for _, way := range []struct{ arrow, step int }{{g[node][other], 1}, {g[other][node], -1}} {
				if way.arrow == 1 && !seen[other] {
					counted[other] = counted[node] + way.step
					visit(other)
				}
				if way.arrow == 1 {
					divisor = gcd(divisor, max(counted[node]+way.step-counted[other], counted[other]-counted[node]-way.step))
				}
			}
		}
	}
	for node := range g {
		if !seen[node] {
			visit(node)
		}
	}
	return counted, divisor
}

func gcd(a, b int) int {
	for b > 0 {
		a, b = b, a%b
	}
	return a
}

func levelsByHand(g [][]int, modulo int) ([]int, bool) {
	counted, divisor := countedByHand(g)
	if divisor%modulo != 0 {
		return nil, false
	}
	for node := range counted {
		counted[node] = (counted[node]%modulo + modulo) % modulo
	}
	return counted, true
}

func divisorsOf(number int) []int {
	var list []int
	for divisor := 1; divisor <= 9; divisor++ {
		if number%divisor == 0 {
			list = append(list, divisor)
		}
	}
	return list
}

func besideByHand(g, h [][]int) [][]int {
	both := emptyGraph(len(g) + len(h))
	for from := range g {
		copy(both[from], g[from])
	}
	for from := range h {
		copy(both[len(g)+from][len(g):], h[from])
	}
	return both
}

func TestPathsLinesAndRingsByHand(t *testing.T) {
	for nodes := 1; nodes <= 9; nodes++ {
		if g := impl.PathOf(nodes); !sameRows(g, pathByHand(nodes)) {
			t.Error("the path of", nodes, "is", g)
		}
		if g := impl.LineOf(nodes); !sameRows(g, lineByHand(nodes)) {
			t.Error("the line of", nodes, "is", g)
		}
		if g := impl.RingOf(nodes); !sameRows(g, ringByHand(nodes)) {
			t.Error("the ring of", nodes, "is", g)
		}
	}
}

func TestPathsLinesAndRingsOfSomeNodes(t *testing.T) {
	for _, one := range []struct {
		nodes            int
		path, line, ring string
	}{
		{1, "", "", "0"},
		{2, "1/", "1/", "1/0"},
		{3, "1/2/", "12/2/", "1/2/0"},
		{9, "1/2/3/4/5/6/7/8/", "12345678/2345678/345678/45678/5678/678/78/8/", "1/2/3/4/5/6/7/8/0"},
	} {
		path, line, ring := impl.GraphText(impl.PathOf(one.nodes)), impl.GraphText(impl.LineOf(one.nodes)), impl.GraphText(impl.RingOf(one.nodes))
		if path != one.path || line != one.line || ring != one.ring {
			t.Errorf("of %d nodes are %q %q %q", one.nodes, path, line, ring)
		}
	}
	if g := impl.PathOf(1); !impl.GraphOk(g) || !impl.GraphOk(impl.LineOf(1)) {
		t.Error("one node is", g, impl.LineOf(1))
	}
}

func TestP34PathsHaveAnArrowFewerThanNodes(t *testing.T) {
	for nodes := 1; nodes <= 9; nodes++ {
		g := impl.PathOf(nodes)
		if len(g) != nodes || impl.ArrowsIn(g) != nodes-1 {
			t.Error("the path of", nodes, "is", g)
		}
		if longest, ok := impl.LongestIn(g); !ok || longest != nodes || !sameRows(impl.PathOf(longest), g) {
			t.Error("the longest path below that of", nodes, "has", longest, ok)
		}
		if impl.RigidOk(g) != (nodes <= 5) {
			t.Error("the path of", nodes, "is rigid:", nodes > 5)
		}
		for other := 1; other <= 9; other++ {
			if h := impl.PathOf(other); impl.FewOk(h, g) && impl.BelowOk(h, g) != (other <= nodes) {
				t.Error("the path of", other, "is below that of", nodes, other > nodes)
			}
		}
	}
}

func TestP35LinesAreAbovePaths(t *testing.T) {
	for nodes := 1; nodes <= 9; nodes++ {
		line, path := impl.LineOf(nodes), impl.PathOf(nodes)
		if len(line) != nodes || impl.ArrowsIn(line) != nodes*(nodes-1)/2 {
			t.Error("the line of", nodes, "is", line)
		}
		if !impl.MapOk(path, line, numbersFrom(0, nodes)) {
			t.Error("the path of", nodes, "is not led to the line, each node to itself")
		}
		if longest, ok := impl.LongestIn(line); !ok || longest != nodes {
			t.Error("the longest path below the line of", nodes, "has", longest, ok)
		}
	}
	for nodes := 1; nodes <= 4; nodes++ {
		line, longer := impl.LineOf(nodes), impl.PathOf(nodes+1)
		if !impl.BelowOk(impl.PathOf(nodes), line) {
			t.Error("the path of", nodes, "is not below the line")
		}
		if !impl.FewOk(longer, line) || impl.BelowOk(longer, line) {
			t.Error("the path of", nodes+1, "is below the line of", nodes, "or there are too many rows")
		}
	}
}

func TestP36RingsDivide(t *testing.T) {
	for first := 1; first <= 9; first++ {
		for second := 1; second <= 9; second++ {
			g, h, divides := impl.RingOf(first), impl.RingOf(second), first%second == 0
			if first <= 5 && second <= 5 && !impl.FewOk(g, h) {
				t.Error(first, second, "are not few")
			}
			if impl.FewOk(g, h) && impl.BelowOk(g, h) != divides {
				t.Error("the ring of", first, "is below that of", second, !divides)
			}
			row := make([]int, first)
			for node := range row {
				row[node] = node % second
			}
			if impl.MapOk(g, h, row) != divides {
				t.Error(row, "is a map from the ring of", first, "to that of", second, !divides)
			}
			if levels, ok := impl.LevelsOf(g, second); ok != divides || ok && !slices.Equal(levels, row) {
				t.Error("the ring of", first, "has modulo", second, "the levels", levels, ok)
			}
		}
		if list := impl.RingsFor(impl.RingOf(first)); !slices.Equal(list, divisorsOf(first)) {
			t.Error("above the ring of", first, "are", list)
		}
	}
}

// checkDual takes a graph of at most 4 nodes.
func checkDual(t *testing.T, g [][]int, paths, lines [][][]int) {
	t.Helper()
	least := -1
	for nodes := 4; nodes >= 1; nodes-- {
		below, above := impl.BelowOk(g, lines[nodes]), impl.BelowOk(paths[nodes+1], g)
		if below == above {
			t.Fatal(g, "is below the line of", nodes, below, "and above the path of one more", above)
		}
		if below {
			least = nodes
		}
	}
	if longest, ok := impl.LongestIn(g); longest != least || ok != (least > 0) {
		t.Fatal("the longest path below", g, "has", longest, ok, "but the least line above it", least)
	}
}

func TestP37BelowALineOrAboveAPath(t *testing.T) {
	paths, lines := [][][]int{nil}, [][][]int{nil}
	for nodes := 1; nodes <= 5; nodes++ {
		paths, lines = append(paths, impl.PathOf(nodes)), append(lines, impl.LineOf(nodes))
	}
	for _, g := range allGraphs(4) {
		checkDual(t, g, paths, lines)
	}
}

func TestLongestInByHand(t *testing.T) {
	finite, endless := 0, 0
	for _, g := range append(pathGraphs(), graphsOf4(1)...) {
		want, told := longestByHand(g)
		if longest, ok := impl.LongestIn(g); longest != want || ok != told {
			t.Fatal("the longest path below", g, "has", longest, ok, "want", want, told)
		}
		if told {
			finite++
		} else {
			endless++
		}
	}
	if finite < 500 || endless < 500 {
		t.Fatal("so many have a longest path, and so many have none:", finite, endless)
	}
}

func TestLongestAndHeightsOfSomeGraphs(t *testing.T) {
	for _, one := range []struct {
		text    string
		longest int
		heights []int
	}{
		{"", 1, []int{0}},
		{"0", -1, nil},
		{"/", 1, []int{0, 0}},
		{"////////", 1, []int{0, 0, 0, 0, 0, 0, 0, 0, 0}},
		{"1/", 2, []int{0, 1}},
		{"/0", 2, []int{1, 0}},
		{"1/0", -1, nil},
		{"/1", -1, nil},
		{"1/2/3/3", -1, nil},
		{"1/2//4//", 3, []int{0, 1, 2, 0, 1, 0}},
		{"12/2/", 3, []int{0, 1, 2}},
		{"23/23//", 2, []int{0, 0, 1, 1}},
		{"/2/3/1", -1, nil},
		{"//0/1/2", 3, []int{2, 1, 1, 0, 0}},
		{"5/5/5/5/5/", 2, []int{0, 0, 0, 0, 0, 1}},
		{"13/2/3/", 4, []int{0, 1, 2, 3}},
		{"1/2/3/4/5/6/7/8/", 9, []int{0, 1, 2, 3, 4, 5, 6, 7, 8}},
		{"/0/1/2/3/4/5/6/7", 9, []int{8, 7, 6, 5, 4, 3, 2, 1, 0}},
		{"12345678/2345678/345678/45678/5678/678/78/8/", 9, []int{0, 1, 2, 3, 4, 5, 6, 7, 8}},
		{"1/2/3/4/5/6/7//", 8, []int{0, 1, 2, 3, 4, 5, 6, 7, 0}},
		{"1/2/3/4/5/6/7/8/8", -1, nil},
		{"1/2/3/4/5/6/7/8/7", -1, nil},
		{"1/2/3/4/5/6/7/8/0", -1, nil},
		{"1/2/3/4/5/6/7//8", -1, nil},
		{"01/2/3/4/5/6/7/8/", -1, nil},
	} {
		g := readGraph(t, one.text)
		if longest, ok := impl.LongestIn(g); longest != one.longest || ok != (one.longest > 0) {
			t.Errorf("the longest path below %q has %d %v", one.text, longest, ok)
		}
		if heights, ok := impl.HeightsOf(g); !slices.Equal(heights, one.heights) || ok != (one.longest > 0) {
			t.Errorf("the heights of %q are %v %v", one.text, heights, ok)
		}
	}
}

// checkModulo compares with what is told by hand, and with maps to the ring.
func checkModulo(t *testing.T, g [][]int, modulo int) {
	t.Helper()
	ring := impl.RingOf(modulo)
	levels, ok := impl.LevelsOf(g, modulo)
	want, told := levelsByHand(g, modulo)
	if ok != told || !slices.Equal(levels, want) {
		t.Fatal(g, "has modulo", modulo, "the levels", levels, ok, "want", want, told)
	}
	if ok && (len(levels) != len(g) || !impl.MapOk(g, ring, levels)) {
		t.Fatal("the levels", levels, "of", g, "are no map to the ring of", modulo)
	}
	if impl.FewOk(g, ring) && impl.BelowOk(g, ring) != ok {
		t.Fatal(g, "has levels modulo", modulo, ok, "but is below the ring:", !ok)
	}
}

func TestP38LevelsAreMapsToRings(t *testing.T) {
	for _, g := range append(pathGraphs(), graphsOf4(1)...) {
		for modulo := 1; modulo <= 9; modulo++ {
			checkModulo(t, g, modulo)
		}
	}
}

// leastOfParts tells for each node the least one that is joined with it by arrows, whichever way they lead.
func leastOfParts(g [][]int) []int {
	least := numbersFrom(0, len(g))
	for range g {
		for from := range g {
			for to := range g {
				if g[from][to] == 1 {
					least[from] = min(least[from], least[to])
					least[to] = least[from]
				}
			}
		}
	}
	return least
}

// All rows are tried: those that may be levels are at most one.
func TestNoOtherRowsAreLevels(t *testing.T) {
	rows := map[[2]int][][]int{}
	for nodes := 1; nodes <= 4; nodes++ {
		for modulo := 1; modulo <= 4; modulo++ {
			rows[[2]int{nodes, modulo}] = rowsOf(nodes, modulo)
		}
	}
	for _, g := range append(allGraphs(3), graphsOf4(41)...) {
		least := leastOfParts(g)
		for modulo := 1; modulo <= 4; modulo++ {
			var found [][]int
			for _, row := range rows[[2]int{len(g), modulo}] {
				if mapByHand(g, ringByHand(modulo), row) && !slices.ContainsFunc(least, func(node int) bool { return row[node] != 0 }) {
					found = append(found, row)
				}
			}
			levels, ok := impl.LevelsOf(g, modulo)
			if len(found) > 1 || ok != (len(found) == 1) || ok && !slices.Equal(levels, found[0]) {
				t.Fatal(g, "has modulo", modulo, "the levels", levels, ok, "but may have", found)
			}
		}
	}
}

func TestLevelsOfSomeGraphs(t *testing.T) {
	for _, one := range []struct {
		text   string
		modulo int
		levels []int
	}{
		{"", 1, []int{0}},
		{"", 9, []int{0}},
		{"0", 1, []int{0}},
		{"0", 2, nil},
		{"0", 9, nil},
		{"////////", 9, []int{0, 0, 0, 0, 0, 0, 0, 0, 0}},
		{"1/", 1, []int{0, 0}},
		{"1/", 2, []int{0, 1}},
		{"/0", 5, []int{0, 4}},
		{"/0", 9, []int{0, 8}},
		{"1/0", 1, []int{0, 0}},
		{"1/0", 2, []int{0, 1}},
		{"1/0", 3, nil},
		{"1/0", 4, nil},
		{"//0/1/2", 4, []int{0, 0, 3, 3, 2}},
		{"2/3/4//", 3, []int{0, 0, 1, 1, 2}},
		{"2/3/4//", 2, []int{0, 0, 1, 1, 0}},
		{"/2/3/1", 3, []int{0, 0, 1, 2}},
		{"/2/3/1", 2, nil},
		{"1/0/3/4/2", 1, []int{0, 0, 0, 0, 0}},
		{"1/0/3/4/2", 2, nil},
		{"1/0/3/4/2", 3, nil},
		{"1/0//4/", 2, []int{0, 1, 0, 0, 1}},
		{"1/0//4/", 3, nil},
		{"1///34/", 3, nil},
		{"1//1/", 3, []int{0, 1, 0, 0}},
		{"12/2/", 1, []int{0, 0, 0}},
		{"12/2/", 2, nil},
		{"13//13/", 9, []int{0, 1, 0, 1}},
		{"13/2//2", 9, []int{0, 1, 2, 1}},
		{"13/2/3/", 2, []int{0, 1, 0, 1}},
		{"13/2/3/", 3, nil},
		{"13/2/3/", 4, nil},
		{"3/4/3/4/", 5, []int{0, 1, 0, 1, 2}},
		{"1/2/3/4/5/6/7/8/", 9, []int{0, 1, 2, 3, 4, 5, 6, 7, 8}},
		{"1/2/3/4/5/6/7/8/", 4, []int{0, 1, 2, 3, 0, 1, 2, 3, 0}},
		{"/0/1/2/3/4/5/6/7", 9, []int{0, 8, 7, 6, 5, 4, 3, 2, 1}},
		{"1/2/3/4/5/6/7/8/0", 9, []int{0, 1, 2, 3, 4, 5, 6, 7, 8}},
		{"1/2/3/4/5/6/7/8/0", 3, []int{0, 1, 2, 0, 1, 2, 0, 1, 2}},
		{"1/2/3/4/5/6/7/8/0", 2, nil},
		{"8/8/8/8/8/8/8/8/", 7, []int{0, 0, 0, 0, 0, 0, 0, 0, 1}},
		{"8//1/2/3/4/5/6/7", 9, []int{0, 8, 7, 6, 5, 4, 3, 2, 1}},
	} {
		if levels, ok := impl.LevelsOf(readGraph(t, one.text), one.modulo); !slices.Equal(levels, one.levels) || ok != (len(one.levels) > 0) {
			t.Errorf("%q has modulo %d the levels %v %v", one.text, one.modulo, levels, ok)
		}
	}
}

// Each ring that is told is above the graph, and no other is, as far as this is tried; for others ways are counted by hand.
func TestRingsForByHand(t *testing.T) {
	for _, g := range append(pathGraphs(), graphsOf4(7)...) {
		_, divisor := countedByHand(g)
		list := impl.RingsFor(g)
		if !slices.Equal(list, divisorsOf(divisor)) {
			t.Fatal("above", g, "are the rings of", list, "but ways that close count what", divisor, "divides")
		}
		for nodes := 1; nodes <= 9; nodes++ {
			ring := impl.RingOf(nodes)
			if impl.FewOk(g, ring) && impl.BelowOk(g, ring) != slices.Contains(list, nodes) {
				t.Fatal("above", g, "are the rings of", list, "but not so of", nodes)
			}
		}
	}
}

func TestRingsForSomeGraphs(t *testing.T) {
	all := numbersFrom(1, 9)
	for _, one := range []struct {
		text  string
		rings []int
	}{
		{"", all},
		{"////////", all},
		{"1/2/3/4/5/6/7/8/", all},
		{"13//13/", all},
		{"13/2//2", all},
		{"1/2//4//", all},
		{"0", []int{1}},
		{"//2", []int{1}},
		{"12/2/", []int{1}},
		{"1/0/3/4/2", []int{1}},
		{"13/2/3/", []int{1, 2}},
		{"1/0", []int{1, 2}},
		{"1/0//4/", []int{1, 2}},
		{"1/2/0/4/5/6/3", []int{1}},
		{"1/0/3/4/5/2", []int{1, 2}},
		{"1/2/0/4/5/6/7/8/3", []int{1, 3}},
		{"1/2/3/0", []int{1, 2, 4}},
		{"1/2/3/4/5/0", []int{1, 2, 3, 6}},
		{"1/2/3/4/5/6/0", []int{1, 7}},
		{"1/2/3/4/5/6/7/0", []int{1, 2, 4, 8}},
		{"1/2/3/4/5/6/7/8/0", []int{1, 3, 9}},
		{"18/2/3/4/5/6/7//7", []int{1, 5}},
	} {
		if list := impl.RingsFor(readGraph(t, one.text)); !slices.Equal(list, one.rings) {
			t.Errorf("above %q are the rings of %v", one.text, list)
		}
	}
}

func checkDividedRings(t *testing.T, g [][]int) {
	t.Helper()
	list := impl.RingsFor(g)
	if len(list) == 0 || list[0] != 1 || list[len(list)-1] > 9 {
		t.Fatal("above", g, "are the rings of", list)
	}
	for at, nodes := range list {
		if at > 0 && nodes <= list[at-1] {
			t.Fatal("above", g, "are the rings of", list)
		}
		for _, divisor := range divisorsOf(nodes) {
			if !slices.Contains(list, divisor) {
				t.Fatal("above", g, "are the rings of", list, "but not of", divisor)
			}
		}
	}
	both, ok := impl.BesideOf(g, impl.RingOf(4))
	if ok != (len(g) <= 5) {
		t.Fatal(g, both, ok)
	}
	if !ok {
		return
	}
	want := slices.DeleteFunc(list, func(nodes int) bool { return 4%nodes != 0 })
	if list := impl.RingsFor(both); !slices.Equal(list, want) {
		t.Fatal("above", g, "beside a ring of 4 are the rings of", list, "want", want)
	}
}

func TestP39RingsAboveAreDividedByTheirDivisors(t *testing.T) {
	for _, g := range append(pathGraphs(), graphsOf4(7)...) {
		checkDividedRings(t, g)
	}
}

// Of two graphs side by side each has its own levels, and just the rings above both are told.
func TestLevelsSideBySide(t *testing.T) {
	var graphs [][][]int
	for nodes := 1; nodes <= 6; nodes++ {
		graphs = append(graphs, emptyGraph(nodes), ringByHand(nodes), pathByHand(nodes), turnedByHand(pathByHand(nodes)), fallingGraph(nodes, 1), levelledGraph(nodes, 2, 1), levelledGraph(nodes, 3, 2))
	}
	for _, g := range graphs {
		for _, h := range graphs {
			if len(g)+len(h) > 9 {
				continue
			}
			both := besideByHand(g, h)
			for modulo := 1; modulo <= 9; modulo++ {
				first, firstOk := impl.LevelsOf(g, modulo)
				second, secondOk := impl.LevelsOf(h, modulo)
				levels, ok := impl.LevelsOf(both, modulo)
				if ok != (firstOk && secondOk) || ok && !slices.Equal(levels, slices.Concat(first, second)) {
					t.Fatal(g, h, "have modulo", modulo, "the levels", first, second, "but side by side", levels, ok)
				}
			}
		}
	}
}

func TestP40HeightsAreAMapToALine(t *testing.T) {
	for _, g := range append(pathGraphs(), graphsOf4(1)...) {
		heights, ok := impl.HeightsOf(g)
		longest, told := impl.LongestIn(g)
		if ok != told {
			t.Fatal(g, "has heights", ok, "but a longest path", told)
		}
		if !ok {
			if len(heights) != 0 {
				t.Fatal(g, "has the heights", heights)
			}
			continue
		}
		if len(heights) != len(g) || !impl.MapOk(g, impl.LineOf(longest), heights) || slices.Max(heights) != longest-1 {
			t.Fatal("the heights", heights, "of", g, "are no map to the line of", longest)
		}
		if want := heightsByHand(g); !slices.Equal(heights, want) {
			t.Fatal("the heights of", g, "are", heights, "want", want)
		}
	}
}

// A node with an arrow to itself leaves no longest path, no heights, and just the ring of one node.
func TestPathsOfNodesWithArrowsToThemselves(t *testing.T) {
	for nodes := 1; nodes <= 9; nodes++ {
		for node := range nodes {
			for _, g := range [][][]int{emptyGraph(nodes), pathByHand(nodes), lineByHand(nodes), ringByHand(nodes), fallingGraph(nodes, 2)} {
				g[node][node] = 1
				longest, told := impl.LongestIn(g)
				heights, ok := impl.HeightsOf(g)
				if longest != -1 || told || len(heights) != 0 || ok {
					t.Fatal(g, longest, told, heights, ok)
				}
				if list := impl.RingsFor(g); !slices.Equal(list, []int{1}) {
					t.Fatal("above", g, "are the rings of", list)
				}
				for modulo := 1; modulo <= 9; modulo++ {
					levels, ok := impl.LevelsOf(g, modulo)
					if ok != (modulo == 1) || ok && !slices.Equal(levels, make([]int, nodes)) || !ok && len(levels) != 0 {
						t.Fatal(g, "has modulo", modulo, "the levels", levels, ok)
					}
				}
			}
		}
	}
}

func TestPathsOfGraphsWithoutArrows(t *testing.T) {
	for nodes := 1; nodes <= 9; nodes++ {
		g, noughts := emptyGraph(nodes), make([]int, nodes)
		if longest, ok := impl.LongestIn(g); longest != 1 || !ok {
			t.Error(nodes, "nodes without arrows have the longest path", longest, ok)
		}
		if heights, ok := impl.HeightsOf(g); !slices.Equal(heights, noughts) || !ok {
			t.Error(nodes, "nodes without arrows have the heights", heights, ok)
		}
		if list := impl.RingsFor(g); !slices.Equal(list, numbersFrom(1, 9)) {
			t.Error("above", nodes, "nodes without arrows are the rings of", list)
		}
		for modulo := 1; modulo <= 9; modulo++ {
			if levels, ok := impl.LevelsOf(g, modulo); !slices.Equal(levels, noughts) || !ok {
				t.Error(nodes, "nodes without arrows have modulo", modulo, "the levels", levels, ok)
			}
		}
	}
}

// badNumbers are neither numbers of nodes nor what levels are counted by.
func badNumbers() []int {
	return []int{0, -1, -2, -9, 10, 11, 18, 256, 257, 1 << 32, 1<<32 + 1, math.MinInt, math.MinInt + 1, math.MaxInt}
}

func TestBadNumbersOfNodes(t *testing.T) {
	for _, nodes := range badNumbers() {
		if g, h, k := impl.PathOf(nodes), impl.LineOf(nodes), impl.RingOf(nodes); len(g)+len(h)+len(k) != 0 {
			t.Error("of", nodes, "nodes there are", g, h, k)
		}
		for _, g := range mixedGraphs() {
			if levels, ok := impl.LevelsOf(g, nodes); ok || len(levels) != 0 {
				t.Error(g, "has modulo", nodes, "the levels", levels, ok)
			}
		}
	}
}

func TestBadGraphsHaveNoPaths(t *testing.T) {
	for name, bad := range badGraphs() {
		if longest, ok := impl.LongestIn(bad); longest != -1 || ok {
			t.Error(name, "LongestIn", longest, ok)
		}
		if heights, ok := impl.HeightsOf(bad); len(heights) != 0 || ok {
			t.Error(name, "HeightsOf", heights, ok)
		}
		if list := impl.RingsFor(bad); len(list) != 0 {
			t.Error(name, "RingsFor", list)
		}
		for _, modulo := range append(badNumbers(), numbersFrom(1, 9)...) {
			if levels, ok := impl.LevelsOf(bad, modulo); len(levels) != 0 || ok {
				t.Error(name, "LevelsOf", modulo, levels, ok)
			}
		}
	}
}

// The order in which goroutines come to the nodes must not be seen, nor one call in another one.
func TestLevelsAreAlwaysTheSame(t *testing.T) {
	graphs := [][][]int{emptyGraph(9), fullGraph(9), ringByHand(9), bothWaysByHand(pathByHand(9)), turnedByHand(pathByHand(9))}
	for number := range uint64(6) {
		graphs = append(graphs, fallingGraph(9, number), levelledGraph(9, 3, number), levelledGraph(8, 4, number))
	}
	var joined sync.WaitGroup
	for range 8 {
		joined.Go(func() {
			for range 10 {
				for _, g := range graphs {
					for modulo := 1; modulo <= 9; modulo++ {
						levels, ok := impl.LevelsOf(g, modulo)
						if want, told := levelsByHand(g, modulo); ok != told || !slices.Equal(levels, want) {
							t.Error(g, "has modulo", modulo, "the levels", levels, ok)
						}
					}
				}
			}
		})
	}
	joined.Wait()
}

func TestArgumentsOfPathsAreNotWrittenTo(t *testing.T) {
	given := [][][]int{plainNode(), loopNode(), emptyGraph(6), fullGraph(3), ringByHand(4), pathByHand(9), lineByHand(9), fallingGraph(7, 1), levelledGraph(8, 2, 1), mixedGraph(9, 1), {{0, 2}, {0, 1}}, {{0, 1}, {0}}, emptyGraph(10)}
	for _, before := range given {
		for _, modulo := range append(badNumbers(), numbersFrom(1, 9)...) {
			g := roomyRows(before)
			impl.LongestIn(g)
			impl.LevelsOf(g, modulo)
			impl.RingsFor(g)
			impl.HeightsOf(g)
			if !unchangedRows(g, before) {
				t.Fatal("written to", before, "modulo", modulo, "now", g)
			}
		}
	}
}

func TestResultsOfPathsAreNewMemory(t *testing.T) {
	for nodes := 1; nodes <= 9; nodes++ {
		for _, g := range [][][]int{emptyGraph(nodes), pathByHand(nodes), lineByHand(nodes), fallingGraph(nodes, 1)} {
			for name, result := range map[string]func(g, h [][]int, l []int) [][]int{
				"PathOf":    func(g, h [][]int, l []int) [][]int { return impl.PathOf(nodes) },
				"LineOf":    func(g, h [][]int, l []int) [][]int { return impl.LineOf(nodes) },
				"RingOf":    func(g, h [][]int, l []int) [][]int { return impl.RingOf(nodes) },
				"LevelsOf":  func(g, h [][]int, l []int) [][]int { x, _ := impl.LevelsOf(g, 1); return [][]int{x} },
				"RingsFor":  func(g, h [][]int, l []int) [][]int { return [][]int{impl.RingsFor(g)} },
				"HeightsOf": func(g, h [][]int, l []int) [][]int { x, _ := impl.HeightsOf(g); return [][]int{x} },
			} {
				checkNewMemory(t, name, g, g, numbersFrom(0, nodes), result)
			}
		}
	}
}

// A graph may have rows that are one and the same slice.
func TestPathsMayShareRows(t *testing.T) {
	noughts, last := []int{0, 0, 0}, []int{0, 0, 1}
	g, h := [][]int{last, last, noughts}, [][]int{last, last, last}
	if longest, ok := impl.LongestIn(g); longest != 2 || !ok {
		t.Fatal(longest, ok)
	}
	if levels, ok := impl.LevelsOf(g, 4); !ok || !slices.Equal(levels, []int{0, 0, 1}) {
		t.Fatal(levels, ok)
	}
	if heights, ok := impl.HeightsOf(g); !ok || !slices.Equal(heights, []int{0, 0, 1}) {
		t.Fatal(heights, ok)
	}
	if list := impl.RingsFor(h); !slices.Equal(list, []int{1}) || !slices.Equal(last, []int{0, 0, 1}) || !slices.Equal(noughts, []int{0, 0, 0}) {
		t.Fatal(list, last, noughts)
	}
}
