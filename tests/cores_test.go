package tests

import (
	"slices"
	"testing"

	"loop.example/graphmaps/impl"
)

func readGraph(t *testing.T, text string) [][]int {
	t.Helper()
	g, ok := impl.ReadGraph(text)
	if !ok {
		t.Fatalf("%q is no text of a graph", text)
	}
	return g
}

// bareGraph is a mixed one without arrows from a node to itself, and for an odd number with about half as many of the others.
func bareGraph(nodes int, number uint64) [][]int {
	g, other := mixedGraph(nodes, number), mixedGraph(nodes, number+1000)
	for from, row := range g {
		for to := range row {
			if from == to || number%2 == 1 && other[from][to] == 0 {
				row[to] = 0
			}
		}
	}
	return g
}

// bothWaysByHand adds to each arrow the one against it.
func bothWaysByHand(g [][]int) [][]int {
	h := turnedByHand(g)
	for from, row := range h {
		for to := range row {
			row[to] = max(row[to], g[from][to])
		}
	}
	return h
}

// pathByHand has an arrow from each node to the next one; lineByHand to all later ones.
func pathByHand(nodes int) [][]int {
	path := ringByHand(nodes)
	path[nodes-1][0] = 0
	return path
}

func lineByHand(nodes int) [][]int {
	line := emptyGraph(nodes)
	for from, row := range line {
		for to := from + 1; to < nodes; to++ {
			row[to] = 1
		}
	}
	return line
}

// graphsOf5 are some graphs of 5 nodes, most without arrows from a node to itself, as else the core is one node.
func graphsOf5() [][][]int {
	ring, path, line := ringByHand(5), pathByHand(5), lineByHand(5)
	list := [][][]int{emptyGraph(5), fullGraph(5), ring, path, line, bothWaysByHand(ring), bothWaysByHand(path), bothWaysByHand(line)}
	for number := range uint64(8) {
		list = append(list, mixedGraph(5, number))
	}
	for number := range uint64(150) {
		g := bareGraph(5, number)
		list = append(list, g)
		if number%5 == 0 {
			list = append(list, bothWaysByHand(g))
		}
	}
	return list
}

// coredGraphs are all graphs of at most 4 nodes, and some of 5.
func coredGraphs() [][][]int {
	return append(allGraphs(4), graphsOf5()...)
}

func staysByHand(g [][]int, row []int) bool {
	for node := range row {
		if row[row[node]] != row[node] {
			return false
		}
	}
	return mapByHand(g, g, row)
}

// imageByHand asks for each of so many nodes whether the row tells it.
func imageByHand(row []int, nodes int) []int {
	var image []int
	for node := range nodes {
		if slices.Contains(row, node) {
			image = append(image, node)
		}
	}
	return image
}

// firstStayByHand is the first of the rows that stays with fewest nodes in its image.
func firstStayByHand(g, rows [][]int) []int {
	for many := 1; many <= len(g); many++ {
		for _, row := range rows {
			if staysByHand(g, row) && len(imageByHand(row, len(g))) == many {
				return row
			}
		}
	}
	return nil
}

// checkStays takes a row of the right nodes, which is a map or not.
func checkStays(t *testing.T, g [][]int, row []int) {
	t.Helper()
	stays := impl.StaysOk(g, row)
	if stays != staysByHand(g, row) {
		t.Fatal(row, "of", g, "stays:", stays)
	}
	if again := slices.Equal(impl.BehindOf(g, g, g, row, row), row); again != stays {
		t.Fatal(row, "of", g, "stays:", stays, "but is the same behind itself:", again)
	}
}

func TestP20WhatStaysTwiceStaysOnce(t *testing.T) {
	kept := rowsBetween{}
	for _, g := range allGraphs(3) {
		for _, row := range kept.rows(g, g) {
			checkStays(t, g, row)
		}
	}
	for number := 0; number < 1<<16; number += 97 {
		g := graphNumbered(4, uint64(number))
		for _, row := range kept.rows(g, g) {
			checkStays(t, g, row)
		}
	}
}

func TestP20OfLargerGraphs(t *testing.T) {
	kept := rowsBetween{}
	for _, g := range graphsOf5() {
		rows := kept.rows(g, g)
		for _, row := range append(someOf(mapsByHand(g, g, rows), 20), someOf(rows, 100)...) {
			checkStays(t, g, row)
		}
	}
	// Whether a single map stays is told of all graphs.
	for nodes := 6; nodes <= 9; nodes++ {
		self := numbersFrom(0, nodes)
		onLast := slices.Repeat([]int{nodes - 1}, nodes)
		lastOnFirst := append(numbersFrom(0, nodes-1), 0)
		next := append(numbersFrom(1, nodes-1), 0)
		later := append(numbersFrom(1, nodes-1), nodes-1)
		for _, g := range [][][]int{emptyGraph(nodes), fullGraph(nodes), ringByHand(nodes), mixedGraph(nodes, 1), bareGraph(nodes, 2)} {
			for _, row := range [][]int{self, onLast, lastOnFirst, next, later} {
				checkStays(t, g, row)
			}
			if !impl.StaysOk(g, self) {
				t.Fatal("each node led to itself does not stay:", g)
			}
		}
		if g := fullGraph(nodes); !impl.StaysOk(g, onLast) || !impl.StaysOk(g, lastOnFirst) || impl.StaysOk(g, next) || impl.StaysOk(g, later) {
			t.Fatal(nodes, "nodes with all arrows")
		}
	}
}

func TestStaysOkOfSomeRows(t *testing.T) {
	square := readGraph(t, "13/02/13/02")
	for _, one := range []struct {
		row   []int
		stays bool
	}{
		{[]int{0, 1, 2, 3}, true},
		{[]int{0, 1, 0, 1}, true},
		{[]int{2, 3, 2, 3}, true},
		{[]int{0, 1, 0, 3}, true},
		{[]int{1, 0, 1, 0}, false}, // a map that exchanges both nodes of its image
		{[]int{2, 1, 0, 1}, false}, // a map that leads 0 to 2, and 2 to 0
		{[]int{1, 2, 3, 0}, false}, // a map that leads no node to itself
		{[]int{0, 0, 0, 0}, false}, // each node of the image stays, but no arrow is led to one
		{[]int{0, 2, 2, 0}, false},
	} {
		if impl.StaysOk(square, one.row) != one.stays {
			t.Error(one.row, "stays:", !one.stays)
		}
	}
}

// placesIn tells for each node of a row its place in a list.
func placesIn(list, row []int) []int {
	var places []int
	for _, node := range row {
		places = append(places, slices.Index(list, node))
	}
	return places
}

// checkImage takes a row of the right nodes, which is a map or not. That the graph is below the part of the image is told only if the rows to this are few.
func checkImage(t *testing.T, g, h [][]int, row []int) {
	t.Helper()
	image := impl.ImageOf(g, h, row)
	if !mapByHand(g, h, row) {
		if len(image) != 0 {
			t.Fatal(row, "is no map from", g, "to", h, "but has the image", image)
		}
		return
	}
	if !slices.Equal(image, imageByHand(row, len(h))) {
		t.Fatal(row, "from", g, "to", h, "has the image", image)
	}
	part := impl.PartOf(h, image)
	if !impl.MapOk(g, part, placesIn(image, row)) || impl.BelowOk(g, part) != fewByHand(g, part) {
		t.Fatal(g, "is below the part of the image", image, "of", h, "which is", part, "told:", impl.BelowOk(g, part))
	}
}

func TestP21ImagesAreWhereSomethingIsLed(t *testing.T) {
	kept := rowsBetween{}
	for _, pair := range smallPairs() {
		for _, row := range kept.rows(pair[0], pair[1]) {
			checkImage(t, pair[0], pair[1], row)
		}
	}
	for _, g := range allGraphs(3) {
		for _, row := range kept.rows(g, g) {
			checkImage(t, g, g, row)
		}
	}
}

func TestP21OfLargerGraphs(t *testing.T) {
	kept := rowsBetween{}
	for _, pair := range fewPairs() {
		rows := kept.rows(pair[0], pair[1])
		for _, row := range append(someOf(mapsByHand(pair[0], pair[1], rows), 10), someOf(rows, 10)...) {
			checkImage(t, pair[0], pair[1], row)
		}
	}
	// An image is told of a single map even where not all rows are few.
	for first := 6; first <= 9; first++ {
		for second := 6; second <= 9; second++ {
			falling := make([]int, first)
			for node := range falling {
				falling[node] = second - 1 - node%3
			}
			for _, g := range [][][]int{emptyGraph(first), pathByHand(first), mixedGraph(first, 1)} {
				checkImage(t, g, fullGraph(second), falling)
				checkImage(t, g, fullGraph(second), make([]int, first))
				checkImage(t, g, g, numbersFrom(0, first))
			}
		}
	}
}

func TestImagesOfSomeMaps(t *testing.T) {
	for _, one := range []struct{ row, image []int }{
		{[]int{8, 3, 8, 0, 3}, []int{0, 3, 8}},
		{[]int{7, 6, 5, 4, 3}, []int{3, 4, 5, 6, 7}},
		{[]int{2, 2, 2, 2, 2}, []int{2}},
		{[]int{0, 1, 2, 3, 4}, []int{0, 1, 2, 3, 4}},
	} {
		if image := impl.ImageOf(emptyGraph(5), emptyGraph(9), one.row); !slices.Equal(image, one.image) {
			t.Error(one.row, "has the image", image)
		}
		if image := impl.ImageOf(ringByHand(5), fullGraph(9), one.row); !slices.Equal(image, one.image) {
			t.Error(one.row, "has the image", image)
		}
	}
}

// checkFewest takes all rows of nodes of the graph.
func checkFewest(t *testing.T, g, rows [][]int) {
	t.Helper()
	row, ok := impl.StaysOf(g)
	if want := firstStayByHand(g, rows); !ok || !slices.Equal(row, want) {
		t.Fatal("of", g, "there stays", row, ok, "want", want)
	}
	if !impl.StaysOk(g, row) {
		t.Fatal(row, "of", g, "does not stay")
	}
	fewest := len(impl.ImageOf(g, g, row))
	for _, other := range impl.MapsOf(g, g) {
		if impl.StaysOk(g, other) && len(impl.ImageOf(g, g, other)) < fewest {
			t.Fatal("of", g, "there stays", row, "but also", other)
		}
	}
}

func TestP22NoPartThatStaysIsSmaller(t *testing.T) {
	kept := rowsBetween{}
	for _, g := range coredGraphs() {
		checkFewest(t, g, kept.rows(g, g))
	}
}

func checkCore(t *testing.T, g [][]int) [][]int {
	t.Helper()
	core, ok := impl.CoreOf(g)
	row, _ := impl.StaysOf(g)
	if want := partByHand(g, imageByHand(row, len(g))); !ok || !sameRows(core, want) {
		t.Fatal("the core of", g, "is", core, ok, "want", want)
	}
	if !impl.CoreOk(core) || !impl.SameLevel(core, g) {
		t.Fatal("of", g, "is told", core, "which is a core:", impl.CoreOk(core), "on its level:", impl.SameLevel(core, g))
	}
	if again, ok := impl.CoreOf(core); !ok || !sameRows(again, core) {
		t.Fatal("the core of", g, "is", core, "but the core of this is", again, ok)
	}
	return core
}

// differentCores are the cores of all graphs of a list, but of those that are the same but for names just one.
func differentCores(t *testing.T, graphs [][][]int) [][][]int {
	t.Helper()
	met, list := map[string]bool{}, [][][]int{}
	for _, g := range graphs {
		core := checkCore(t, g)
		text := textByHand(core)
		listed := func(other [][]int) bool { _, same := impl.SameGraph(core, other); return same }
		if !met[text] && !slices.ContainsFunc(list, listed) {
			list = append(list, core)
		}
		met[text] = true
	}
	return list
}

// As each graph is on the level of its core, and levels of levels are levels (P8), it is enough that no two different cores are on one level.
func TestP23CoresOfOneLevelAreTheSame(t *testing.T) {
	list := differentCores(t, coredGraphs())
	sizes := map[int]int{}
	for at, core := range list {
		sizes[len(core)]++
		for _, other := range list[:at] {
			if impl.SameLevel(core, other) {
				t.Fatal(core, "and", other, "are different cores on one level")
			}
		}
	}
	// One node with and without an arrow to itself; one or both of two arrows.
	if sizes[1] != 2 || sizes[2] != 2 || sizes[3] == 0 || sizes[4] == 0 || sizes[5] == 0 {
		t.Fatal("there are so many cores of so many nodes:", sizes)
	}
}

func TestP23OfAllPairsOfSmallGraphs(t *testing.T) {
	all := allGraphs(3)
	cores := make([][][]int, len(all))
	for at, g := range all {
		cores[at] = checkCore(t, g)
	}
	for i, g := range all {
		for k, h := range all {
			below := impl.BelowOk(g, h)
			if impl.BelowOk(cores[i], cores[k]) != below {
				t.Fatal(g, "is below", h, below, "but for the cores", cores[i], cores[k], "it is not so")
			}
			if _, same := impl.SameGraph(cores[i], cores[k]); same != (below && impl.BelowOk(h, g)) {
				t.Fatal(g, h, "have the cores", cores[i], cores[k], "which are the same:", same)
			}
		}
	}
}

// checkTurning takes all rows of nodes of the graph, and all orders.
func checkTurning(t *testing.T, g, rows, orders [][]int) {
	t.Helper()
	isCore := true
	maps := mapsByHand(g, g, rows)
	for _, row := range maps {
		isCore = isCore && len(imageByHand(row, len(g))) == len(g)
	}
	turns := turnsByHand(g, orders)
	if impl.CoreOk(g) != isCore || impl.TurnsOf(g) != turns || impl.RigidOk(g) != (len(maps) == 1) {
		t.Fatal(g, "is a core:", impl.CoreOk(g), "turns:", impl.TurnsOf(g), "is rigid:", impl.RigidOk(g), "want", isCore, turns, len(maps) == 1)
	}
}

func turnsByHand(g [][]int, orders [][]int) int {
	turns := 0
	for _, order := range orders {
		if sameRows(partByHand(g, order), g) {
			turns++
		}
	}
	return turns
}

func TestCoresTurnsAndRigidGraphsByHand(t *testing.T) {
	kept, orders := rowsBetween{}, map[int][][]int{}
	for nodes := 1; nodes <= 5; nodes++ {
		orders[nodes] = ordersOf(nodes)
	}
	for _, g := range coredGraphs() {
		checkTurning(t, g, kept.rows(g, g), orders[len(g)])
	}
}

func TestP24MapsOfCoresTurn(t *testing.T) {
	cores, others := map[int]int{}, map[int]int{}
	for _, g := range coredGraphs() {
		isCore := impl.CoreOk(g)
		if count, turns := impl.CountOf(g, g), impl.TurnsOf(g); isCore && count != turns {
			t.Fatal(g, "is a core, and has", count, "maps to itself, but", turns, "turns")
		}
		if core, ok := impl.CoreOf(g); !ok || (len(core) == len(g)) != isCore {
			t.Fatal(g, "is a core:", isCore, "but has the core", core, ok)
		}
		if isCore {
			cores[len(g)]++
		} else {
			others[len(g)]++
		}
	}
	if cores[1] != 2 || cores[2] != 3 || others[2] != 13 || cores[3] == 0 || cores[4] == 0 || cores[5] == 0 || others[5] == 0 {
		t.Fatal("there are so many cores of so many nodes:", cores, "and so many others:", others)
	}
}

func TestP25TurnsAreAmongMaps(t *testing.T) {
	orders := []int{1, 1, 2, 6, 24, 120}
	for _, g := range coredGraphs() {
		turns := impl.TurnsOf(g)
		if turns < 1 || turns > impl.CountOf(g, g) || orders[len(g)]%turns != 0 {
			t.Fatal(g, "has", turns, "turns, and", impl.CountOf(g, g), "maps to itself")
		}
		if turned := impl.TurnsOf(impl.TurnedOf(g)); turned != turns {
			t.Fatal(g, "has", turns, "turns, but turned round", turned)
		}
	}
}

func TestP26RigidGraphsAreCores(t *testing.T) {
	rigid := map[int]int{}
	for _, g := range coredGraphs() {
		turned := impl.TurnedOf(g)
		if !impl.RigidOk(g) {
			if impl.RigidOk(turned) {
				t.Fatal(g, "is not rigid, but turned round it is")
			}
			continue
		}
		rigid[len(g)]++
		for _, x := range [][][]int{g, turned} {
			if !impl.RigidOk(x) || !impl.CoreOk(x) || impl.TurnsOf(x) != 1 || impl.CountOf(x, x) != 1 {
				t.Fatal(g, "is rigid, but", x, "is a core:", impl.CoreOk(x), "and has", impl.TurnsOf(x), "turns")
			}
		}
	}
	if rigid[1] != 2 || rigid[2] != 2 || rigid[3] == 0 || rigid[4] == 0 || rigid[5] == 0 {
		t.Fatal("there are so many rigid graphs of so many nodes:", rigid)
	}
}

// known is what all functions of chapter 5 tell of a graph.
type known struct {
	text          string
	stays         []int
	core          string
	isCore, rigid bool
	turns         int
}

func checkKnown(t *testing.T, want known) {
	t.Helper()
	g := readGraph(t, want.text)
	if row, ok := impl.StaysOf(g); !ok || !slices.Equal(row, want.stays) {
		t.Errorf("of %q there stays %v %v, not %v", want.text, row, ok, want.stays)
	}
	if core, ok := impl.CoreOf(g); !ok || !sameRows(core, readGraph(t, want.core)) {
		t.Errorf("the core of %q is %v %v, not %q", want.text, core, ok, want.core)
	}
	if isCore, rigid, turns := impl.CoreOk(g), impl.RigidOk(g), impl.TurnsOf(g); isCore != want.isCore || rigid != want.rigid || turns != want.turns {
		t.Errorf("%q is a core: %v, is rigid: %v, turns: %d", want.text, isCore, rigid, turns)
	}
}

func TestGraphsThatAreCoresAlready(t *testing.T) {
	for _, want := range []known{
		{"", []int{0}, "", true, true, 1},
		{"0", []int{0}, "0", true, true, 1},
		{"1/", []int{0, 1}, "1/", true, true, 1},
		{"/0", []int{0, 1}, "/0", true, true, 1},
		{"1/0", []int{0, 1}, "1/0", true, false, 2},
		{"1/2/", []int{0, 1, 2}, "1/2/", true, true, 1},
		{"12/2/", []int{0, 1, 2}, "12/2/", true, true, 1},
		{"1/2/0", []int{0, 1, 2}, "1/2/0", true, false, 3},
		{"12/02/01", []int{0, 1, 2}, "12/02/01", true, false, 6},
		{"1/2/0/4/3", []int{0, 1, 2, 3, 4}, "1/2/0/4/3", true, false, 6}, // neither ring is below the other one, so that side by side they are a core
		{"1/2/3/0", []int{0, 1, 2, 3}, "1/2/3/0", true, false, 4},
		{"1/2/3/4/0", []int{0, 1, 2, 3, 4}, "1/2/3/4/0", true, false, 5},
		{"14/02/13/24/03", []int{0, 1, 2, 3, 4}, "14/02/13/24/03", true, false, 10},
		{"1234/234/34/4/", []int{0, 1, 2, 3, 4}, "1234/234/34/4/", true, true, 1},
		{"1234/0234/0134/0124/0123", []int{0, 1, 2, 3, 4}, "1234/0234/0134/0124/0123", true, false, 120},
	} {
		checkKnown(t, want)
	}
}

func TestGraphsThatAreNoCores(t *testing.T) {
	for _, want := range []known{
		{"1//", []int{0, 1, 0}, "1/", false, false, 1},
		{"/2/", []int{1, 1, 2}, "1/", false, false, 1},
		{"1//3/", []int{0, 1, 0, 1}, "1/", false, false, 2},
		{"1/2/1", []int{2, 1, 2}, "1/0", false, false, 1},        // the first map with as few nodes, 1 2 1, does not stay
		{"3/2/3/1", []int{2, 1, 2, 3}, "1/2/0", false, false, 1}, // the nodes of the image come in ascending order, not as the row tells them
		{"13/02/13/02", []int{0, 1, 0, 1}, "1/0", false, false, 8},
		{"1/02/13/2", []int{0, 1, 0, 1}, "1/0", false, false, 2},
		{"1/2/0/1/1", []int{0, 1, 2, 0, 0}, "1/2/0", false, false, 2},
		{"4/4/4/4/0123", []int{0, 0, 0, 0, 4}, "1/0", false, false, 24},
	} {
		checkKnown(t, want)
	}
}

// The core of a graph with an arrow from a node to itself is one such node: the first one.
func TestCoresOfGraphsWithArrowsToThemselves(t *testing.T) {
	for _, want := range []known{
		{"0/", []int{0, 0}, "0", false, false, 1},
		{"/1", []int{1, 1}, "0", false, false, 1},
		{"1/1", []int{1, 1}, "0", false, false, 1},
		{"0/1", []int{0, 0}, "0", false, false, 2},
		{"01/01", []int{0, 0}, "0", false, false, 2},
		{"/1/2", []int{1, 1, 1}, "0", false, false, 2},
		{"1/2/3/4/4", []int{4, 4, 4, 4, 4}, "0", false, false, 1},
		{"01234/01234/01234/01234/01234", []int{0, 0, 0, 0, 0}, "0", false, false, 120},
	} {
		checkKnown(t, want)
	}
	for _, g := range coredGraphs() {
		first := slices.IndexFunc(numbersFrom(0, len(g)), func(node int) bool { return g[node][node] == 1 })
		if first < 0 {
			continue
		}
		row, _ := impl.StaysOf(g)
		if core, ok := impl.CoreOf(g); !ok || !sameRows(core, loopNode()) || !slices.Equal(row, slices.Repeat([]int{first}, len(g))) {
			t.Fatal(g, "stays", row, "with the core", core, ok)
		}
		if one := len(g) == 1; impl.CoreOk(g) != one || impl.RigidOk(g) != one {
			t.Fatal(g, "is a core:", impl.CoreOk(g), "is rigid:", impl.RigidOk(g))
		}
	}
}

func TestCoresOfGraphsWithoutArrows(t *testing.T) {
	turns := []int{1, 1, 2, 6, 24, 120}
	for nodes := 1; nodes <= 5; nodes++ {
		g := emptyGraph(nodes)
		row, _ := impl.StaysOf(g)
		if core, ok := impl.CoreOf(g); !ok || !sameRows(core, plainNode()) || !slices.Equal(row, make([]int, nodes)) {
			t.Fatal(nodes, row, core, ok)
		}
		if one := nodes == 1; impl.CoreOk(g) != one || impl.RigidOk(g) != one || impl.TurnsOf(g) != turns[nodes] {
			t.Fatal(nodes, impl.CoreOk(g), impl.RigidOk(g), impl.TurnsOf(g))
		}
	}
}

func checkNoCore(t *testing.T, name string, g [][]int) {
	t.Helper()
	if row, ok := impl.StaysOf(g); ok || len(row) != 0 {
		t.Error(name, "StaysOf", row, ok)
	}
	if core, ok := impl.CoreOf(g); ok || len(core) != 0 {
		t.Error(name, "CoreOf", core, ok)
	}
	if impl.CoreOk(g) || impl.RigidOk(g) || impl.TurnsOf(g) != -1 {
		t.Error(name, "CoreOk", impl.CoreOk(g), "RigidOk", impl.RigidOk(g), "TurnsOf", impl.TurnsOf(g))
	}
}

// A line is rigid, and so a core, whatever its size.
func TestCoresAreOfAtMost5Nodes(t *testing.T) {
	for nodes := 1; nodes <= 9; nodes++ {
		for _, g := range [][][]int{emptyGraph(nodes), fullGraph(nodes), ringByHand(nodes), pathByHand(nodes), lineByHand(nodes), mixedGraph(nodes, 1), bareGraph(nodes, 1)} {
			if nodes > 5 {
				checkNoCore(t, "too many nodes", g)
				continue
			}
			_, stays := impl.StaysOf(g)
			_, told := impl.CoreOf(g)
			if !stays || !told || impl.TurnsOf(g) < 1 {
				t.Fatal(g, stays, told, impl.TurnsOf(g))
			}
		}
		if g := lineByHand(nodes); impl.CoreOk(g) != (nodes <= 5) || impl.RigidOk(g) != (nodes <= 5) {
			t.Fatal(g, impl.CoreOk(g), impl.RigidOk(g))
		}
	}
}

func TestBadGraphsHaveNoCores(t *testing.T) {
	one := []int{0}
	for name, bad := range badGraphs() {
		checkNoCore(t, name, bad)
		noughts, self := make([]int, len(bad)), numbersFrom(0, len(bad))
		for _, row := range [][]int{noughts, self, one, nil} {
			if impl.StaysOk(bad, row) {
				t.Error(name, "StaysOk", row)
			}
			for _, two := range [][2][][]int{{bad, loopNode()}, {plainNode(), bad}, {bad, bad}} {
				if image := impl.ImageOf(two[0], two[1], row); len(image) != 0 {
					t.Error(name, "ImageOf", row, image)
				}
			}
		}
	}
}

// With all arrows in the second graph nothing but the numbers of a row keeps it from being a map.
func TestBadRowsNeitherStayNorHaveAnImage(t *testing.T) {
	for first := 1; first <= 9; first++ {
		for second := 1; second <= 9; second++ {
			g, h := emptyGraph(first), fullGraph(second)
			if image := impl.ImageOf(g, h, make([]int, first)); !slices.Equal(image, []int{0}) {
				t.Fatal(first, second, image)
			}
			for _, row := range badRows(first, second) {
				if image := impl.ImageOf(g, h, row); len(image) != 0 {
					t.Fatal(first, second, row, image)
				}
			}
		}
		for _, g := range [][][]int{emptyGraph(first), fullGraph(first)} {
			if !impl.StaysOk(g, make([]int, first)) {
				t.Fatal(g)
			}
			for _, row := range badRows(first, first) {
				if impl.StaysOk(g, row) {
					t.Fatal(g, row)
				}
			}
		}
	}
}

func TestArgumentsOfCoresAreNotWrittenTo(t *testing.T) {
	given := [][][]int{mixedGraph(3, 1), emptyGraph(3), fullGraph(3), ringByHand(3), bareGraph(5, 1), emptyGraph(2), loopNode(), emptyGraph(6), {{0, 2}, {0, 1}}, {{0, 1}, {0}}}
	for _, first := range given {
		for _, second := range given {
			for _, list := range [][]int{{0, 0, 0}, {2, 1, 2}, {2, 0, 1}, {2, 1, 7}, {4, 1, 2, 3, 4}, {1, 1}, {0}, {5, 4, 3, 2, 1, 0}} {
				g, h, f := roomyRows(first), roomyRows(second), roomy(list)
				impl.StaysOk(g, f)
				impl.ImageOf(g, h, f)
				impl.StaysOf(g)
				impl.CoreOf(g)
				impl.CoreOk(g)
				impl.TurnsOf(g)
				impl.RigidOk(g)
				if !unchangedRows(g, first) || !unchangedRows(h, second) || !unchangedRow(f, list) {
					t.Fatal("written to", first, second, list, "now", g, h, f)
				}
			}
		}
	}
}

func TestResultsOfCoresAreNewMemory(t *testing.T) {
	for nodes := 1; nodes <= 5; nodes++ {
		for _, g := range [][][]int{emptyGraph(nodes), fullGraph(nodes), ringByHand(nodes), pathByHand(nodes), bareGraph(nodes, 3)} {
			for name, result := range map[string]func(g, h [][]int, l []int) [][]int{
				"ImageOf": func(g, h [][]int, l []int) [][]int { return [][]int{impl.ImageOf(g, h, l)} },
				"StaysOf": func(g, h [][]int, l []int) [][]int { x, _ := impl.StaysOf(g); return [][]int{x} },
				"CoreOf":  func(g, h [][]int, l []int) [][]int { x, _ := impl.CoreOf(g); return x },
			} {
				checkNewMemory(t, name, g, g, numbersFrom(0, nodes), result)
				checkNewMemory(t, name, g, fullGraph(9), make([]int, nodes), result)
			}
		}
	}
}

// A graph may have rows that are one and the same slice, which may be the map as well.
func TestCoresMayShareArguments(t *testing.T) {
	row := []int{1, 1}
	g := [][]int{row, row}
	if !impl.StaysOk(g, row) || impl.CoreOk(g) || impl.TurnsOf(g) != 2 || impl.RigidOk(g) {
		t.Fatal(g)
	}
	if image := impl.ImageOf(g, g, row); !slices.Equal(image, []int{1}) {
		t.Fatal(image)
	}
	if f, ok := impl.StaysOf(g); !ok || !slices.Equal(f, []int{0, 0}) {
		t.Fatal(f, ok)
	}
	if core, ok := impl.CoreOf(g); !ok || !sameRows(core, loopNode()) || !slices.Equal(row, []int{1, 1}) {
		t.Fatal(core, ok, row)
	}
}
