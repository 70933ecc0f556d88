package tests

import (
	"math"
	"slices"
	"strconv"
	"testing"

	"loop.example/graphmaps/impl"
)

func wholeByHand(nodes int) [][]int {
	whole := fullGraph(nodes)
	for node := range whole {
		whole[node][node] = 0
	}
	return whole
}

func hasLoop(g [][]int) bool {
	for node := range g {
		if g[node][node] == 1 {
			return true
		}
	}
	return false
}

// coloursByHand takes a graph, and any numbers.
func coloursByHand(g [][]int, many int, row []int) bool {
	if len(row) != len(g) || many < 1 || many > 9 || slices.Min(row) < 0 || slices.Max(row) >= many {
		return false
	}
	for from := range g {
		for to := range g {
			if g[from][to] == 1 && row[from] == row[to] {
				return false
			}
		}
	}
	return true
}

func countColoursByHand(g [][]int, many int) int {
	count := 0
	for _, row := range rowsOf(len(g), many) {
		if coloursByHand(g, many, row) {
			count++
		}
	}
	return count
}

// greedyColours gives each node the least colour that none of those before it has with which it is joined; with an arrow to itself it is no row of colours.
func greedyColours(g [][]int) []int {
	row := make([]int, len(g))
	for node := range g {
		for before := 0; before < node; before++ {
			if row[before] == row[node] && g[before][node]+g[node][before] > 0 {
				row[node]++
				before = -1
			}
		}
	}
	return row
}

// pairsByHand are each two nodes with arrows both ways between them, the lesser first.
func pairsByHand(g [][]int) [][2]int {
	var list [][2]int
	for lesser := range g {
		for greater := lesser + 1; greater < len(g); greater++ {
			if g[lesser][greater]+g[greater][lesser] == 2 {
				list = append(list, [2]int{lesser, greater})
			}
		}
	}
	return list
}

// oneWayByHand reads the digits of the number from its text, from the last sign on.
func oneWayByHand(g [][]int, number int) [][]int {
	h, digits := copyOf(g), strconv.FormatInt(int64(number), 2)
	for at, both := range pairsByHand(g) {
		lesser, greater := both[0], both[1]
		if place := len(digits) - 1 - at; place >= 0 && digits[place] == '1' {
			h[lesser][greater] = 0
		} else {
			h[greater][lesser] = 0
		}
	}
	return h
}

// shortestByHand tries all ways of a graph of at most 4 nodes.
func shortestByHand(g [][]int) (int, bool) {
	fewest, told := -1, false
	both := bothWaysByHand(g)
	for number := range 1 << len(pairsByHand(both)) {
		if longest, ok := longestByHand(oneWayByHand(both, number)); ok && (!told || longest < fewest) {
			fewest, told = longest, true
		}
	}
	return fewest, told
}

// bareGraphsOf4 are all graphs of 4 nodes without an arrow from a node to itself.
func bareGraphsOf4() [][][]int {
	var list [][][]int
	for number := range uint64(1 << 12) {
		g := emptyGraph(4)
		for from, row := range g {
			for to := range row {
				if from != to {
					row[to] = int(number & 1)
					number >>= 1
				}
			}
		}
		list = append(list, g)
	}
	return list
}

// colouredGraphs are all graphs of at most 3 nodes, all of 4 without arrows from a node to itself and some with, and some of 5.
func colouredGraphs() [][][]int {
	list := append(allGraphs(3), bareGraphsOf4()...)
	return slices.Concat(list, graphsOf4(41), graphsOf5())
}

// waysGraphs are graphs of all sizes, with many pairs of nodes between which there are arrows both ways, and with few.
func waysGraphs() [][][]int {
	list := append(manyGraphs(), graphsOf4(61)...)
	for nodes := 4; nodes <= 9; nodes++ {
		whole := wholeByHand(nodes)
		list = append(list, whole, bothWaysByHand(pathByHand(nodes)), bothWaysByHand(ringByHand(nodes)), bareGraph(nodes, 1), bareGraph(nodes, 2), bothWaysByHand(bareGraph(nodes, 3)))
		list = append(list, withArrows(whole, func(from, to int) bool { return from < to || (from+to)%2 == 0 }))
	}
	return list
}

// someWays are the least numbers of ways and the greatest ones, and some between them.
func someWays() []int {
	return append(numbersFrom(0, 17), 31, 32, 63, 64, 85, 170, 255, 256, 341, 511, 512, 682, 1000, 1021, 1022, 1023)
}

// fallingProduct counts the rows of so many colours that all differ.
func fallingProduct(many, nodes int) int {
	product := 1
	for node := range nodes {
		product *= max(many-node, 0)
	}
	return product
}

func TestP41WholeGraphsNeedAllColours(t *testing.T) {
	for nodes := 1; nodes <= 9; nodes++ {
		g := impl.WholeOf(nodes)
		if !sameRows(g, wholeByHand(nodes)) || impl.ArrowsIn(g) != nodes*(nodes-1) {
			t.Error("the whole graph of", nodes, "is", g)
		}
		fewest, ok := impl.FewestOf(g)
		if nodes <= 4 && (fewest != nodes || !ok) || nodes > 4 && (fewest != -1 || ok) {
			t.Error("the whole graph of", nodes, "needs", fewest, ok)
		}
		if impl.CoreOk(g) != (nodes <= 5) {
			t.Error("the whole graph of", nodes, "is a core:", nodes > 5)
		}
		for many := 1; many <= 9; many++ {
			row := numbersFrom(0, nodes)
			if impl.ColoursOk(g, many, row) != (many >= nodes) {
				t.Error("the whole graph of", nodes, "has", row, "of", many, "colours:", many < nodes)
			}
			row[nodes-1] = 0
			if impl.ColoursOk(g, many, row) != (nodes == 1) {
				t.Error("the whole graph of", nodes, "has", row, "of", many, "colours:", nodes > 1)
			}
		}
	}
}

func TestWholeGraphsOfSomeNodes(t *testing.T) {
	for nodes, want := range map[int]string{
		1: "",
		2: "1/0",
		3: "12/02/01",
		4: "123/023/013/012",
		9: "12345678/02345678/01345678/01245678/01235678/01234678/01234578/01234568/01234567",
	} {
		if g := impl.WholeOf(nodes); impl.GraphText(g) != want || !impl.GraphOk(g) {
			t.Errorf("the whole graph of %d is %v", nodes, g)
		}
	}
}

// checkColours takes any row, and so many colours as there may be.
func checkColours(t *testing.T, g [][]int, many int, row []int) bool {
	t.Helper()
	want := coloursByHand(g, many, row)
	if impl.ColoursOk(g, many, row) != want {
		t.Fatal(g, "has the row", row, "of", many, "colours:", !want)
	}
	if want && !impl.ColoursOk(impl.BothWays(g), many, row) {
		t.Fatal(g, "has the row", row, "of", many, "colours, but not both ways")
	}
	if want != impl.MapOk(g, wholeByHand(many), row) {
		t.Fatal(g, "has the row", row, "of", many, "colours", want, "but is led so to the whole graph:", !want)
	}
	return want
}

// Here colours are from -1 to the first one that is too great.
func TestP42ColoursAreMaps(t *testing.T) {
	rows := map[[2]int][][]int{}
	for nodes := 1; nodes <= 4; nodes++ {
		for many := 1; many <= 4; many++ {
			for _, row := range rowsOf(nodes, many+2) {
				for at := range row {
					row[at]--
				}
				rows[[2]int{nodes, many}] = append(rows[[2]int{nodes, many}], row)
			}
		}
	}
	for _, g := range append(allGraphs(3), graphsOf4(331)...) {
		for many := 1; many <= 4; many++ {
			held := 0
			for _, row := range rows[[2]int{len(g), many}] {
				if checkColours(t, g, many, row) {
					held++
				}
			}
			if count := impl.CountColours(g, many); count != held {
				t.Fatal(g, "has", count, "rows of", many, "colours, but", held, "are some")
			}
		}
	}
}

// One colour after the other of a row that may hold is changed.
func TestColoursOfLargerGraphs(t *testing.T) {
	held, failed := 0, 0
	for _, g := range waysGraphs() {
		greedy := greedyColours(g)
		for _, row := range [][]int{greedy, make([]int, len(g)), numbersFrom(0, len(g))} {
			for many := 1; many <= 9; many++ {
				for at := range row {
					for colour := -1; colour <= many; colour++ {
						other := slices.Clone(row)
						other[at] = colour
						if checkColours(t, g, many, other) {
							held++
						} else {
							failed++
						}
					}
				}
			}
		}
	}
	if held < 5000 || failed < 5000 {
		t.Fatal("so many hold, and so many do not:", held, failed)
	}
}

func TestColoursOfSomeRows(t *testing.T) {
	for _, one := range []struct {
		text string
		many int
		row  []int
		want bool
	}{
		{"", 1, []int{0}, true},
		{"", 9, []int{8}, true},
		{"", 9, []int{9}, false},
		{"", 1, []int{1}, false},
		{"0", 1, []int{0}, false},
		{"0", 9, []int{8}, false},
		{"/", 1, []int{0, 0}, true},
		{"1/", 1, []int{0, 0}, false},
		{"1/", 2, []int{1, 1}, false},
		{"/0", 2, []int{1, 1}, false},
		{"1/", 2, []int{1, 0}, true},
		{"/0", 2, []int{1, 0}, true},
		{"1/", 2, []int{1, 2}, false},
		{"1/1", 2, []int{1, 0}, false},
		{"01/", 9, []int{1, 0}, false},
		{"1/2/", 2, []int{0, 1, 0}, true},
		{"1/2/0", 2, []int{0, 1, 0}, false},
		{"1/2/0", 3, []int{2, 1, 0}, true},
		{"1/2/3/4/0", 3, []int{0, 1, 0, 1, 2}, true},
		{"1/2/3/4/0", 3, []int{0, 1, 0, 1, 0}, false},
		{"1/2/3/4/5/6/7/8/", 2, []int{0, 1, 0, 1, 0, 1, 0, 1, 0}, true},
		{"1/2/3/4/5/6/7/8/0", 2, []int{0, 1, 0, 1, 0, 1, 0, 1, 0}, false},
		{"1/2/3/4/5/6/7/8/0", 9, []int{8, 1, 8, 1, 8, 1, 8, 1, 7}, true},
		{"////////", 1, []int{0, 0, 0, 0, 0, 0, 0, 0, 0}, true},
		{"////////8", 9, []int{0, 1, 2, 3, 4, 5, 6, 7, 8}, false},
	} {
		if is := impl.ColoursOk(readGraph(t, one.text), one.many, one.row); is != one.want {
			t.Errorf("%q has the row %v of %d colours: %v", one.text, one.row, one.many, is)
		}
	}
}

func TestP43ArrowsToThemselvesLeaveNoColours(t *testing.T) {
	for _, g := range append(allGraphs(4), graphsOf5()...) {
		before := 0
		for many := 1; many <= 4; many++ {
			count := impl.CountColours(g, many)
			if count < before {
				t.Fatal(g, "has fewer rows of", many, "colours than of one fewer:", count, before)
			}
			if hasLoop(g) && count != 0 {
				t.Fatal(g, "has", count, "rows of", many, "colours")
			}
			before = count
		}
	}
	for nodes := 1; nodes <= 5; nodes++ {
		for many := 1; many <= 4; many++ {
			if count := impl.CountColours(emptyGraph(nodes), many); count != powerOf(many, nodes) {
				t.Fatal(nodes, "nodes without arrows have", count, "rows of", many, "colours")
			}
		}
	}
}

func TestCountColoursByHand(t *testing.T) {
	for _, g := range slices.Concat(allGraphs(3), graphsOf4(331), bareGraphsOf4()[:500], graphsOf5()) {
		for many := 1; many <= 4; many++ {
			if count, want := impl.CountColours(g, many), countColoursByHand(g, many); count != want {
				t.Fatal(g, "has", count, "rows of", many, "colours, not", want)
			}
		}
	}
}

// A ring of so many nodes has (many-1)^nodes rows, and many-1 more or fewer; one node with an arrow to itself has none.
func TestCountColoursOfKnownGraphs(t *testing.T) {
	for nodes := 1; nodes <= 5; nodes++ {
		for many := 1; many <= 4; many++ {
			ends := many * powerOf(many-1, nodes-1)
			round := powerOf(many-1, nodes) + (many-1)*(1-nodes%2*2)
			for _, one := range []struct {
				g    [][]int
				want int
			}{
				{emptyGraph(nodes), powerOf(many, nodes)},
				{fullGraph(nodes), 0},
				{pathByHand(nodes), ends},
				{turnedByHand(pathByHand(nodes)), ends},
				{ringByHand(nodes), round},
				{bothWaysByHand(ringByHand(nodes)), round},
				{lineByHand(nodes), fallingProduct(many, nodes)},
				{wholeByHand(nodes), fallingProduct(many, nodes)},
			} {
				if count := impl.CountColours(one.g, many); count != one.want {
					t.Error(one.g, "has", count, "rows of", many, "colours, not", one.want)
				}
			}
		}
	}
}

// checkFewestColours takes a graph of at most 4 nodes.
func checkFewestColours(t *testing.T, g [][]int) {
	t.Helper()
	fewest, ok := impl.FewestOf(g)
	if ok == hasLoop(g) {
		t.Fatal(g, "needs", fewest, ok)
	}
	core, _ := impl.CoreOf(g)
	if again, told := impl.FewestOf(core); again != fewest || told != ok {
		t.Fatal(g, "needs", fewest, ok, "but its core", core, again, told)
	}
	if !ok {
		if fewest != -1 {
			t.Fatal(g, "needs", fewest, ok)
		}
		return
	}
	if fewest < 1 || fewest > len(g) || impl.CountColours(g, fewest) < 1 || impl.CountColours(g, fewest-1) > 0 {
		t.Fatal(g, "needs", fewest, "but has", impl.CountColours(g, fewest-1), impl.CountColours(g, fewest))
	}
}

func TestP44FewestColoursAreThoseOfTheCore(t *testing.T) {
	for _, g := range allGraphs(4) {
		checkFewestColours(t, g)
	}
}

// fewestOrMore is more than any graph has where none are told.
func fewestOrMore(g [][]int) int {
	if fewest, ok := impl.FewestOf(g); ok {
		return fewest
	}
	return 99
}

func TestP44BelowInTheOrderNeedsNoMoreColours(t *testing.T) {
	pairs, bare, more := smallPairs(), bareGraphsOf4(), 0
	for at := 0; at < len(bare); at += 29 {
		for other := 0; other < len(bare); other += 31 {
			pairs = append(pairs, [2][][]int{bare[at], bare[other]})
		}
	}
	for _, pair := range pairs {
		first, second := fewestOrMore(pair[0]), fewestOrMore(pair[1])
		if first <= second {
			continue
		}
		more++
		if impl.BelowOk(pair[0], pair[1]) {
			t.Fatal(pair[0], "is below", pair[1], "but needs", first, "colours, and not", second)
		}
	}
	if more < 1000 {
		t.Fatal("of", len(pairs), "pairs the first one needs more colours in", more)
	}
}

func TestFewestOfSomeGraphs(t *testing.T) {
	for _, one := range []struct {
		text string
		want int
	}{
		{"", 1},
		{"0", -1},
		{"/", 1},
		{"1/", 2},
		{"/0", 2},
		{"1/0", 2},
		{"1/1", -1},
		{"0/", -1},
		{"//", 1},
		{"1/2/", 2},
		{"12/2/", 3},
		{"1/2/0", 3},
		{"12/02/01", 3},
		{"//0", 2},
		{"///", 1},
		{"///3", -1},
		{"///0", 2},
		{"1/2/3/0", 2},
		{"1/2/0/", 3},
		{"/2/3/1", 3},
		{"123///", 2},
		{"123/2//", 3},
		{"123/23/3/", 4},
		{"1/2/3/01", 3},
		{"12/3/13/0", 4},
		{"123/023/013/012", 4},
		{"123/023/013/0123", -1},
	} {
		g := readGraph(t, one.text)
		if fewest, ok := impl.FewestOf(g); fewest != one.want || ok != (one.want > 0) {
			t.Errorf("%q needs %d %v", one.text, fewest, ok)
		}
		if fewest, ok := impl.ShortestWay(g); fewest != one.want || ok != (one.want > 0) {
			t.Errorf("the shortest way of %q has %d %v", one.text, fewest, ok)
		}
	}
}

func TestP45BothWaysIsTheSameBothWays(t *testing.T) {
	for _, g := range append(waysGraphs(), colouredGraphs()...) {
		h := impl.BothWays(g)
		if want := bothWaysByHand(g); !sameRows(h, want) {
			t.Fatal(g, "is both ways", h, "not", want)
		}
		if turned := impl.TurnedOf(h); !sameRows(turned, h) {
			t.Fatal(g, "is both ways", h, "and turned round", turned)
		}
		if !impl.MapOk(g, h, numbersFrom(0, len(g))) {
			t.Fatal(g, "is not below", h, "each node led to itself")
		}
		if again := impl.BothWays(h); !sameRows(again, h) {
			t.Fatal(g, "is both ways", h, "and again", again)
		}
		if turned := impl.BothWays(impl.TurnedOf(g)); !sameRows(turned, h) {
			t.Fatal(g, "is both ways", h, "but turned round", turned)
		}
	}
}

func TestBothWaysOfSomeGraphs(t *testing.T) {
	for text, want := range map[string]string{
		"":                  "",
		"0":                 "0",
		"/":                 "/",
		"1/":                "1/0",
		"/0":                "1/0",
		"1/0":               "1/0",
		"01/":               "01/0",
		"1/1":               "1/01",
		"1/2/":              "1/02/1",
		"1/2/0":             "12/02/01",
		"12//":              "12/0/0",
		"1/2/3/":            "1/02/13/2",
		"////////":          "////////",
		"8////////":         "8////////0",
		"1/2/3/4/5/6/7/8/8": "1/02/13/24/35/46/57/68/78",
	} {
		if h := impl.BothWays(readGraph(t, text)); !sameRows(h, readGraph(t, want)) {
			t.Errorf("%q is both ways %q", text, impl.GraphText(h))
		}
	}
}

func checkOneWay(t *testing.T, g [][]int, number int) {
	t.Helper()
	way := impl.OneWay(g, number)
	if want := oneWayByHand(g, number); !sameRows(way, want) {
		t.Fatal(g, "is in the way", number, way, "not", want)
	}
	if both := pairsByHand(way); len(both) > 0 {
		t.Fatal(g, "is in the way", number, way, "and has arrows both ways between", both)
	}
	if both, want := impl.BothWays(way), impl.BothWays(g); !sameRows(both, want) {
		t.Fatal(g, "is in the way", number, way, "and both ways", both, "not", want)
	}
	if again := impl.OneWay(way, 1023-number); !sameRows(again, way) {
		t.Fatal(g, "is in the way", number, way, "and in another one behind it", again)
	}
}

func TestP46OneWayAndBackItIsBoth(t *testing.T) {
	for _, g := range waysGraphs() {
		for _, number := range someWays() {
			checkOneWay(t, g, number)
		}
	}
	for nodes := 5; nodes <= 7; nodes++ {
		for number := range 1024 {
			checkOneWay(t, wholeByHand(nodes), number)
			checkOneWay(t, bareGraph(nodes, 2), number)
		}
	}
}

// 5 nodes have 10 pairs, so that no two ways are the same; of 6 the last 5 pairs have no digits, and keep the arrows from the lesser nodes.
func TestWaysAreToldByTheirDigits(t *testing.T) {
	for _, nodes := range []int{5, 6, 9} {
		seen := map[string]bool{}
		for number := range 1024 {
			way := impl.OneWay(wholeByHand(nodes), number)
			seen[impl.GraphText(way)] = true
			for at, both := range pairsByHand(wholeByHand(nodes)) {
				if kept := 1 - number>>at&1; way[both[0]][both[1]] != kept || way[both[1]][both[0]] != 1-kept {
					t.Fatal("the whole graph of", nodes, "is in the way", number, way, "but at", both)
				}
			}
		}
		if len(seen) != 1024 {
			t.Fatal("the whole graph of", nodes, "has", len(seen), "ways")
		}
	}
}

func TestDigitsBeyondAllPairsChangeNothing(t *testing.T) {
	for _, g := range waysGraphs() {
		pairs := len(pairsByHand(g))
		if pairs >= 10 {
			continue
		}
		for _, number := range someWays() {
			way, less := impl.OneWay(g, number), impl.OneWay(g, number%(1<<pairs))
			if !sameRows(way, less) {
				t.Fatal(g, "is in the way", number, way, "but without digits beyond", pairs, less)
			}
			if pairs == 0 && !sameRows(way, g) {
				t.Fatal(g, "has no arrows both ways, but is in the way", number, way)
			}
		}
	}
}

func TestOneWayOfSomeGraphs(t *testing.T) {
	for _, one := range []struct {
		text   string
		number int
		want   string
	}{
		{"", 0, ""},
		{"", 1023, ""},
		{"0", 0, "0"},
		{"0", 1023, "0"},
		{"1/", 1023, "1/"},
		{"/0", 0, "/0"},
		{"1/0", 0, "1/"},
		{"1/0", 1, "/0"},
		{"1/0", 2, "1/"},
		{"1/0", 1022, "1/"},
		{"1/0", 1023, "/0"},
		{"01/01", 0, "01/1"},
		{"01/01", 1, "0/01"},
		{"12/02/01", 0, "12/2/"},
		{"12/02/01", 1, "2/02/"},
		{"12/02/01", 2, "1/2/0"},
		{"12/02/01", 4, "12//1"},
		{"12/02/01", 7, "/0/01"},
		{"12/02/01", 8, "12/2/"},
		{"1/02/1", 2, "1//1"},
		{"2/2/01", 1, "/2/0"},
		{"12/2/01", 2, "12//1"},
		{"123/0/01/0", 1, "23/0/1/"},
		{"12345/02345/01345/01245/01235/01234", 1023, "/0/0145/01245/015/01"},
	} {
		if way := impl.OneWay(readGraph(t, one.text), one.number); !sameRows(way, readGraph(t, one.want)) {
			t.Errorf("%q is in the way %d %q", one.text, one.number, impl.GraphText(way))
		}
	}
}

func TestP47WalksTellColours(t *testing.T) {
	told, untold := 0, 0
	for _, g := range allGraphs(4) {
		fewest, ok := impl.FewestOf(g)
		if shortest, found := impl.ShortestWay(g); shortest != fewest || found != ok {
			t.Fatal("the shortest way of", g, "has", shortest, found, "but it needs", fewest, ok)
		}
		if ok {
			told++
		} else {
			untold++
		}
	}
	if told != 1+4+64+4096 || untold < 1000 {
		t.Fatal("so many have a shortest way, and so many have none:", told, untold)
	}
}

func TestShortestWayByHand(t *testing.T) {
	for _, g := range slices.Concat(allGraphs(3), bareGraphsOf4(), graphsOf4(331)) {
		shortest, ok := impl.ShortestWay(g)
		if want, told := shortestByHand(g); shortest != want || ok != told {
			t.Fatal("the shortest way of", g, "has", shortest, ok, "not", want, told)
		}
	}
}

// No way that is told by OneWay is shorter, and one is as short.
func TestShortestWayIsAWay(t *testing.T) {
	for _, g := range append(allGraphs(3), bareGraphsOf4()[3000:]...) {
		shortest, ok := impl.ShortestWay(g)
		found := false
		for number := range 64 {
			longest, ends := impl.LongestIn(impl.OneWay(impl.BothWays(g), number))
			if ends && longest < shortest || ends && !ok {
				t.Fatal("the shortest way of", g, "has", shortest, ok, "but the way", number, longest)
			}
			found = found || ends && longest == shortest
		}
		if found != ok {
			t.Fatal("the shortest way of", g, "has", shortest, ok, "and is there:", found)
		}
	}
}

// Only what is bounded by nodes and colours is kept from being told: no graph here has an arrow from a node to itself.
func TestColoursAreOfFewNodes(t *testing.T) {
	for nodes := 1; nodes <= 9; nodes++ {
		for _, g := range [][][]int{emptyGraph(nodes), pathByHand(nodes), lineByHand(nodes), wholeByHand(nodes), bareGraph(nodes, 1), bareGraph(nodes, 2)} {
			for many := 1; many <= 9; many++ {
				if count := impl.CountColours(g, many); count < 0 != (nodes > 5 || many > 4) || count < -1 {
					t.Error(g, "has", count, "rows of", many, "colours")
				}
			}
			if fewest, ok := impl.FewestOf(g); ok != (nodes <= 4) || !ok && fewest != -1 {
				t.Error(g, "needs", fewest, ok)
			}
			if fewest, ok := impl.ShortestWay(g); ok != (nodes <= 4) || !ok && fewest != -1 {
				t.Error("the shortest way of", g, "has", fewest, ok)
			}
			if !impl.ColoursOk(g, 9, numbersFrom(0, nodes)) || len(impl.BothWays(g)) != nodes || len(impl.OneWay(g, 1023)) != nodes {
				t.Error(g, "has not one colour for each node, or no ways")
			}
		}
	}
}

// A single arrow from a node to itself leaves nothing to be told but ways, in which it stays.
func TestColoursOfNodesWithArrowsToThemselves(t *testing.T) {
	for nodes := 1; nodes <= 9; nodes++ {
		for node := range nodes {
			for _, g := range [][][]int{emptyGraph(nodes), pathByHand(nodes), wholeByHand(nodes), bareGraph(nodes, 1)} {
				bare := copyOf(g)
				g[node][node] = 1
				bare[node][node] = 0
				for many := 1; many <= 9; many++ {
					if impl.ColoursOk(g, many, greedyColours(bare)) || impl.ColoursOk(g, many, make([]int, nodes)) {
						t.Fatal(g, "has a row of", many, "colours")
					}
				}
				if fewest, ok := impl.FewestOf(g); fewest != -1 || ok {
					t.Fatal(g, "needs", fewest, ok)
				}
				if fewest, ok := impl.ShortestWay(g); fewest != -1 || ok {
					t.Fatal("the shortest way of", g, "has", fewest, ok)
				}
				for _, number := range []int{0, 1, 1023} {
					if way := impl.OneWay(g, number); way[node][node] != 1 || impl.BothWays(g)[node][node] != 1 {
						t.Fatal(g, "is in the way", number, way)
					}
				}
			}
		}
	}
}

func TestColoursOfGraphsWithoutArrows(t *testing.T) {
	for nodes := 1; nodes <= 9; nodes++ {
		g := emptyGraph(nodes)
		if h := impl.BothWays(g); !sameRows(h, g) {
			t.Error(nodes, "nodes without arrows are both ways", h)
		}
		for _, number := range someWays() {
			if way := impl.OneWay(g, number); !sameRows(way, g) {
				t.Error(nodes, "nodes without arrows are in the way", number, way)
			}
		}
		for many := 1; many <= 9; many++ {
			if !impl.ColoursOk(g, many, make([]int, nodes)) || !impl.ColoursOk(g, many, slices.Repeat([]int{many - 1}, nodes)) {
				t.Error(nodes, "nodes without arrows have not the same one of", many, "colours")
			}
		}
		if nodes > 4 {
			continue
		}
		fewest, ok := impl.FewestOf(g)
		shortest, found := impl.ShortestWay(g)
		if fewest != 1 || !ok || shortest != 1 || !found {
			t.Error(nodes, "nodes without arrows need", fewest, ok, "and have the shortest way", shortest, found)
		}
	}
}

// badWays are no numbers of ways to keep arrows.
func badWays() []int {
	return []int{-1, -2, -1023, -1024, 1024, 1025, 1536, 2047, 2048, 1 << 32, 1<<32 + 1, math.MinInt, math.MinInt + 1, math.MaxInt}
}

func TestBadNumbersOfColoursAndWays(t *testing.T) {
	for _, many := range badNumbers() {
		if g := impl.WholeOf(many); len(g) != 0 {
			t.Error("of", many, "nodes there is", g)
		}
		for _, g := range mixedGraphs() {
			for _, row := range [][]int{make([]int, len(g)), numbersFrom(0, len(g)), greedyColours(g), nil} {
				if impl.ColoursOk(g, many, row) {
					t.Error(g, "has the row", row, "of", many, "colours")
				}
			}
		}
	}
	for _, many := range append(badNumbers(), 5, 6, 7, 8, 9) {
		for _, g := range mixedGraphs() {
			if count := impl.CountColours(g, many); count != -1 {
				t.Error(g, "has", count, "rows of", many, "colours")
			}
		}
	}
	for _, number := range badWays() {
		for _, g := range mixedGraphs() {
			if way := impl.OneWay(g, number); len(way) != 0 {
				t.Error(g, "is in the way", number, way)
			}
		}
	}
}

// Without arrows nothing but the numbers of a row keeps it from telling colours.
func TestBadRowsAreNoColours(t *testing.T) {
	for nodes := 1; nodes <= 9; nodes++ {
		g := emptyGraph(nodes)
		for many := 1; many <= 9; many++ {
			if !impl.ColoursOk(g, many, make([]int, nodes)) {
				t.Fatal(nodes, many)
			}
			for _, row := range badRows(nodes, many) {
				if impl.ColoursOk(g, many, row) {
					t.Fatal(nodes, "nodes without arrows have the row", row, "of", many, "colours")
				}
			}
		}
		if impl.ColoursOk(g, 9, nil) {
			t.Fatal(nodes, "nodes without arrows have an empty row of colours")
		}
	}
}

func TestBadGraphsHaveNoColours(t *testing.T) {
	for name, bad := range badGraphs() {
		for _, many := range append(badNumbers(), numbersFrom(1, 9)...) {
			for _, row := range [][]int{make([]int, len(bad)), numbersFrom(0, len(bad)), {0}, nil} {
				if impl.ColoursOk(bad, many, row) {
					t.Error(name, "ColoursOk", many, row)
				}
			}
			if count := impl.CountColours(bad, many); count != -1 {
				t.Error(name, "CountColours", many, count)
			}
		}
		if fewest, ok := impl.FewestOf(bad); fewest != -1 || ok {
			t.Error(name, "FewestOf", fewest, ok)
		}
		if h := impl.BothWays(bad); len(h) != 0 {
			t.Error(name, "BothWays", h)
		}
		for _, number := range append(badWays(), someWays()...) {
			if way := impl.OneWay(bad, number); len(way) != 0 {
				t.Error(name, "OneWay", number, way)
			}
		}
		if fewest, ok := impl.ShortestWay(bad); fewest != -1 || ok {
			t.Error(name, "ShortestWay", fewest, ok)
		}
	}
}

func TestArgumentsOfColoursAreNotWrittenTo(t *testing.T) {
	given := [][][]int{plainNode(), loopNode(), emptyGraph(4), fullGraph(3), wholeByHand(4), wholeByHand(5), wholeByHand(9), pathByHand(4), bareGraph(4, 1), mixedGraph(9, 1), {{0, 2}, {0, 1}}, {{0, 1}, {0}}, emptyGraph(10)}
	for _, before := range given {
		for _, list := range [][]int{nil, {0}, {0, 1, 0, 1}, {3, 2, 1, 0}, {0, 1, 7, 9}, numbersFrom(0, 9)} {
			for _, number := range append(badWays(), someWays()...) {
				g, row := roomyRows(before), roomy(list)
				impl.ColoursOk(g, number, row)
				impl.CountColours(g, number)
				impl.FewestOf(g)
				impl.BothWays(g)
				impl.OneWay(g, number)
				impl.ShortestWay(g)
				if !unchangedRows(g, before) || !unchangedRow(row, list) {
					t.Fatal("written to", before, list, "with", number, "now", g, row)
				}
			}
		}
	}
}

func TestResultsOfColoursAreNewMemory(t *testing.T) {
	for nodes := 1; nodes <= 9; nodes++ {
		for _, g := range [][][]int{emptyGraph(nodes), fullGraph(nodes), wholeByHand(nodes), pathByHand(nodes), bareGraph(nodes, 2)} {
			results := map[string]func(g, h [][]int, l []int) [][]int{
				"WholeOf":  func(g, h [][]int, l []int) [][]int { return impl.WholeOf(nodes) },
				"BothWays": func(g, h [][]int, l []int) [][]int { return impl.BothWays(g) },
				"OneWay":   func(g, h [][]int, l []int) [][]int { return impl.OneWay(g, 0) },
				"last way": func(g, h [][]int, l []int) [][]int { return impl.OneWay(g, 1023) },
			}
			for name, result := range results {
				checkNewMemory(t, name, g, g, numbersFrom(0, nodes), result)
			}
		}
	}
}

// A graph may have rows that are one and the same slice, which may be the row of colours as well.
func TestColoursMayShareRows(t *testing.T) {
	row := []int{0, 1}
	g, noughts := [][]int{row, row}, []int{0, 0, 0}
	bare := [][]int{noughts, noughts, noughts}
	if impl.ColoursOk(g, 2, row) || impl.CountColours(g, 4) != 0 || !impl.ColoursOk(bare, 1, noughts) || impl.CountColours(bare, 4) != 64 {
		t.Fatal(g, bare)
	}
	if h, way := impl.BothWays(g), impl.OneWay(impl.BothWays(g), 1); !sameRows(h, [][]int{{0, 1}, {1, 1}}) || !sameRows(way, [][]int{{0, 0}, {1, 1}}) {
		t.Fatal(h, way)
	}
	ones := []int{1, 1}
	if way := impl.OneWay([][]int{ones, ones}, 0); !sameRows(way, [][]int{{1, 1}, {0, 1}}) {
		t.Fatal(way)
	}
	fewest, ok := impl.FewestOf(bare)
	shortest, found := impl.ShortestWay(bare)
	if fewest != 1 || !ok || shortest != 1 || !found || !slices.Equal(row, []int{0, 1}) || !slices.Equal(ones, []int{1, 1}) || !slices.Equal(noughts, []int{0, 0, 0}) {
		t.Fatal(fewest, ok, shortest, found, row, ones, noughts)
	}
}
