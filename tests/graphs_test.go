package tests

import (
	"regexp"
	"slices"
	"strings"
	"testing"

	"loop.example/graphmaps/impl"
)

func TestGraphOkTakesEachGraph(t *testing.T) {
	if impl.MaxNodes != 9 {
		t.Fatal("MaxNodes is", impl.MaxNodes)
	}
	for _, g := range manyGraphs() {
		if !impl.GraphOk(g) {
			t.Fatal("refused", g)
		}
	}
}

func TestGraphOkRefusesAllElse(t *testing.T) {
	for name, g := range badGraphs() {
		if impl.GraphOk(g) {
			t.Error("accepted", name)
		}
	}
	for nodes := 1; nodes <= 9; nodes++ {
		for place := range nodes * nodes {
			for _, number := range []int{-1, 2} {
				g := fullGraph(nodes)
				g[place/nodes][place%nodes] = number
				if impl.GraphOk(g) {
					t.Fatal("accepted", g)
				}
			}
		}
	}
}

func TestBadGraphsHaveTheirFixedAnswers(t *testing.T) {
	good := [][]int{{1}}
	for name, bad := range badGraphs() {
		if count := impl.ArrowsIn(bad); count != -1 {
			t.Error(name, "ArrowsIn", count)
		}
		if h := impl.TurnedOf(bad); len(h) != 0 {
			t.Error(name, "TurnedOf", h)
		}
		if h := impl.PartOf(bad, []int{0}); len(h) != 0 {
			t.Error(name, "PartOf", h)
		}
		if s := impl.GraphText(bad); s != "" {
			t.Error(name, "GraphText", s)
		}
		for _, two := range [][2][][]int{{bad, good}, {good, bad}, {bad, bad}} {
			if h, ok := impl.BesideOf(two[0], two[1]); ok || len(h) != 0 {
				t.Error(name, "BesideOf", h, ok)
			}
			if order, ok := impl.SameGraph(two[0], two[1]); ok || len(order) != 0 {
				t.Error(name, "SameGraph", order, ok)
			}
		}
	}
}

func TestP1TurnedTwiceIsAsBefore(t *testing.T) {
	for _, g := range manyGraphs() {
		h := impl.TurnedOf(g)
		if !impl.GraphOk(h) || len(h) != len(g) {
			t.Fatal(g, "turned is", h)
		}
		for from := range g {
			for to := range g {
				if h[to][from] != g[from][to] {
					t.Fatal(g, "turned is", h)
				}
			}
		}
		if again := impl.TurnedOf(h); !sameRows(again, g) {
			t.Fatal(g, "turned twice is", again)
		}
	}
}

func numbersFrom(first, many int) []int {
	var list []int
	for i := range many {
		list = append(list, first+i)
	}
	return list
}

func checkBeside(t *testing.T, g, h [][]int) {
	t.Helper()
	x, ok := impl.BesideOf(g, h)
	if len(g)+len(h) > 9 {
		if ok || len(x) != 0 {
			t.Fatal("too many nodes:", g, h, x, ok)
		}
		return
	}
	if !ok || !impl.GraphOk(x) || len(x) != len(g)+len(h) {
		t.Fatal(g, h, x, ok)
	}
	if first := impl.PartOf(x, numbersFrom(0, len(g))); !sameRows(first, g) {
		t.Fatal("the first part of", x, "is", first)
	}
	if last := impl.PartOf(x, numbersFrom(len(g), len(h))); !sameRows(last, h) {
		t.Fatal("the last part of", x, "is", last)
	}
	if impl.ArrowsIn(x) != impl.ArrowsIn(g)+impl.ArrowsIn(h) {
		t.Fatal("arrows in", x)
	}
}

func TestP2SideBySideBothAreThere(t *testing.T) {
	few := append(allGraphs(2), mixedGraphs()...)
	for _, g := range few {
		for _, h := range few {
			checkBeside(t, g, h)
		}
	}
}

func TestBesideOfHasAtMostMaxNodes(t *testing.T) {
	for nodes := 1; nodes <= 9; nodes++ {
		for more := 1; more <= 9; more++ {
			x, ok := impl.BesideOf(fullGraph(nodes), emptyGraph(more))
			if ok != (nodes+more <= 9) {
				t.Fatal(nodes, more, ok)
			}
			if ok && (len(x) != nodes+more || x[nodes-1][nodes-1] != 1 || x[nodes][nodes] != 0) {
				t.Fatal(nodes, more, x)
			}
			if !ok && len(x) != 0 {
				t.Fatal("rows beside false", x)
			}
		}
	}
}

func TestBesideOfPutsTheSecondBehind(t *testing.T) {
	want := [][]int{{0, 1, 0}, {1, 0, 0}, {0, 0, 1}}
	if x, ok := impl.BesideOf([][]int{{0, 1}, {1, 0}}, [][]int{{1}}); !ok || !sameRows(x, want) {
		t.Fatal(x, ok)
	}
}

// listsOf are all lists of nodes of a graph, each node once, in every order.
func listsOf(nodes int) [][]int {
	lists := [][]int{}
	for begun := [][]int{{}}; len(begun) > 0; begun = begun[1:] {
		for node := range nodes {
			if !slices.Contains(begun[0], node) {
				longer := append(slices.Clone(begun[0]), node)
				lists = append(lists, longer)
				begun = append(begun, longer)
			}
		}
	}
	return lists
}

func checkPart(t *testing.T, g [][]int, list []int) {
	t.Helper()
	h := impl.PartOf(g, list)
	if !impl.GraphOk(h) || len(h) != len(list) || impl.ArrowsIn(h) > impl.ArrowsIn(g) {
		t.Fatal(g, list, h)
	}
	for i, from := range list {
		for k, to := range list {
			if h[i][k] != g[from][to] {
				t.Fatal(g, list, h)
			}
		}
	}
}

func TestP3PartsOfGraphsAreGraphs(t *testing.T) {
	for _, g := range manyGraphs() {
		if len(g) <= 4 {
			for _, list := range listsOf(len(g)) {
				checkPart(t, g, list)
			}
		}
		backwards := numbersFrom(0, len(g))
		slices.Reverse(backwards)
		for last := range g {
			checkPart(t, g, backwards[:last+1])
			checkPart(t, g, []int{last})
		}
		if h := impl.PartOf(g, numbersFrom(0, len(g))); !sameRows(h, g) {
			t.Fatal("all nodes of", g, "make", h)
		}
	}
}

func TestPartOfRefusesBadLists(t *testing.T) {
	for nodes := 1; nodes <= 9; nodes++ {
		g := fullGraph(nodes)
		all := numbersFrom(0, nodes)
		bad := [][]int{
			nil, {}, {-1}, {nodes}, {0, 0}, {0, -1}, {0, nodes},
			{-1 << 63}, {1<<63 - 1}, {1 << 32}, {256},
			append(slices.Clone(all), 0),
			append(slices.Clone(all), nodes),
			append(slices.Clone(all), all...),
			append(slices.Clone(all[:nodes-1]), nodes),
		}
		if nodes > 2 {
			bad = append(bad, []int{0, 1, 0}, []int{2, 1, 1}, []int{1, 2, 3, 1})
		}
		for _, list := range bad {
			if h := impl.PartOf(g, list); len(h) != 0 {
				t.Fatal(nodes, list, h)
			}
		}
	}
}

// ordersOf are all orders of so many nodes, in the order of rows of numbers.
func ordersOf(nodes int) [][]int {
	var orders [][]int
	for _, list := range listsOf(nodes) {
		if len(list) == nodes {
			orders = append(orders, list)
		}
	}
	slices.SortFunc(orders, slices.Compare[[]int])
	return orders
}

func firstOrder(g, h [][]int, orders [][]int) ([]int, bool) {
	for _, order := range orders {
		if len(order) == len(h) && sameRows(partByHand(g, order), h) {
			return order, true
		}
	}
	return nil, false
}

func partByHand(g [][]int, list []int) [][]int {
	h := emptyGraph(len(list))
	for i, from := range list {
		for k, to := range list {
			h[i][k] = g[from][to]
		}
	}
	return h
}

func turnedByHand(g [][]int) [][]int {
	h := emptyGraph(len(g))
	for i := range g {
		for k := range g {
			h[k][i] = g[i][k]
		}
	}
	return h
}

// checkSame takes all orders of the nodes of the first graph.
func checkSame(t *testing.T, g, h [][]int, orders [][]int) {
	t.Helper()
	want, wantOk := firstOrder(g, h, orders)
	order, ok := impl.SameGraph(g, h)
	if ok != wantOk || !slices.Equal(order, want) {
		t.Fatal(g, h, "got", order, ok, "want", want, wantOk)
	}
	if ok && !sameRows(impl.PartOf(g, order), h) {
		t.Fatal(order, "does not make", h, "of", g)
	}
	if back, backOk := impl.SameGraph(h, g); backOk != ok || len(back) != len(order) {
		t.Fatal("exchanged", g, h, back, backOk)
	}
	turned, turnedOk := impl.SameGraph(turnedByHand(g), turnedByHand(h))
	if turnedOk != ok || !slices.Equal(turned, order) {
		t.Fatal("turned round", g, h, turned, turnedOk)
	}
}

func TestP4TheSameBothWays(t *testing.T) {
	all := allGraphs(3)
	for _, g := range all {
		orders := ordersOf(len(g))
		for _, h := range all {
			checkSame(t, g, h, orders)
		}
	}
}

func TestP4OfLargerGraphs(t *testing.T) {
	for nodes := 4; nodes <= 5; nodes++ {
		orders := ordersOf(nodes)
		ring := emptyGraph(nodes)
		for node := range ring {
			ring[node][(node+1)%nodes] = 1
		}
		graphs := [][][]int{ring, emptyGraph(nodes), fullGraph(nodes), mixedGraph(nodes, 1), mixedGraph(nodes, 2)}
		for _, g := range graphs {
			for _, order := range orders {
				h := partByHand(g, order)
				checkSame(t, g, h, orders)
				h[nodes-1][0] = 1 - h[nodes-1][0]
				checkSame(t, g, h, orders)
			}
		}
	}
}

func TestSameGraphTellsTheFirstOrder(t *testing.T) {
	if order, ok := impl.SameGraph(emptyGraph(5), emptyGraph(5)); !ok || !slices.Equal(order, []int{0, 1, 2, 3, 4}) {
		t.Fatal(order, ok)
	}
	ring := [][]int{{0, 1, 0}, {0, 0, 1}, {1, 0, 0}}
	if order, ok := impl.SameGraph(ring, turnedByHand(ring)); !ok || !slices.Equal(order, []int{0, 2, 1}) {
		t.Fatal(order, ok)
	}
	// Of a ring an order and its inverse may both do; of this path the order alone does.
	path := [][]int{{0, 1, 0}, {0, 0, 1}, {0, 0, 0}}
	other := [][]int{{0, 0, 0}, {0, 0, 1}, {1, 0, 0}}
	if order, ok := impl.SameGraph(path, other); !ok || !slices.Equal(order, []int{2, 0, 1}) {
		t.Fatal(order, ok)
	}
}

func TestSameGraphRefusesLargeAndUnequal(t *testing.T) {
	for nodes := 1; nodes <= 9; nodes++ {
		for _, g := range [][][]int{emptyGraph(nodes), fullGraph(nodes), mixedGraph(nodes, 3)} {
			if order, ok := impl.SameGraph(g, copyOf(g)); ok != (nodes <= 5) || !ok && len(order) != 0 {
				t.Fatal(nodes, order, ok)
			}
			for more := 1; more <= 9; more++ {
				if order, ok := impl.SameGraph(g, emptyGraph(more)); more != nodes && (ok || len(order) != 0) {
					t.Fatal(nodes, more, order, ok)
				}
			}
		}
	}
}

func TestP62OneNodeIsAGraph(t *testing.T) {
	for arrows, text := range []string{"", "0"} {
		g := [][]int{{arrows}}
		if !impl.GraphOk(g) || impl.ArrowsIn(g) != arrows || impl.GraphText(g) != text {
			t.Fatal(g, impl.GraphOk(g), impl.ArrowsIn(g), impl.GraphText(g))
		}
		if h, ok := impl.ReadGraph(text); !ok || !sameRows(h, g) {
			t.Fatal(text, h, ok)
		}
		if h := impl.TurnedOf(g); !sameRows(h, g) {
			t.Fatal(g, h)
		}
		if h := impl.PartOf(g, []int{0}); !sameRows(h, g) {
			t.Fatal(g, h)
		}
		if order, ok := impl.SameGraph(g, [][]int{{arrows}}); !ok || !slices.Equal(order, []int{0}) {
			t.Fatal(g, order, ok)
		}
		if order, ok := impl.SameGraph(g, [][]int{{1 - arrows}}); ok || len(order) != 0 {
			t.Fatal(g, order, ok)
		}
	}
}

func TestP63TurnedArrowsAreAsMany(t *testing.T) {
	for _, g := range manyGraphs() {
		want := 0
		for _, row := range g {
			for _, number := range row {
				want += number
			}
		}
		count := impl.ArrowsIn(g)
		if count != want || count > len(g)*len(g) {
			t.Fatal(g, "has", count)
		}
		if turned := impl.ArrowsIn(impl.TurnedOf(g)); turned != count {
			t.Fatal(g, "turned has", turned)
		}
	}
	for nodes := 1; nodes <= 9; nodes++ {
		if impl.ArrowsIn(emptyGraph(nodes)) != 0 || impl.ArrowsIn(fullGraph(nodes)) != nodes*nodes {
			t.Fatal(nodes)
		}
	}
}

func textByHand(g [][]int) string {
	var words []string
	for _, row := range g {
		word := ""
		for to, number := range row {
			if number == 1 {
				word += "012345678"[to : to+1]
			}
		}
		words = append(words, word)
	}
	return strings.Join(words, "/")
}

func TestP64TextsOfGraphsAreRead(t *testing.T) {
	for _, g := range manyGraphs() {
		text := impl.GraphText(g)
		if text != textByHand(g) {
			t.Fatal(g, "has the text", text)
		}
		if h, ok := impl.ReadGraph(text); !ok || !sameRows(h, g) {
			t.Fatal(text, "is read as", h, ok)
		}
	}
}

func TestGraphTextOfSomeGraphs(t *testing.T) {
	for text, g := range map[string][][]int{
		"/":        {{0, 0}, {0, 0}},
		"1/":       {{0, 1}, {0, 0}},
		"/01":      {{0, 0}, {1, 1}},
		"1/2/":     {{0, 1, 0}, {0, 0, 1}, {0, 0, 0}},
		"////////": emptyGraph(9),
		strings.Repeat("012345678/", 8) + "012345678": fullGraph(9),
	} {
		if s := impl.GraphText(g); s != text {
			t.Errorf("%v has the text %q, not %q", g, s, text)
		}
		if h, ok := impl.ReadGraph(text); !ok || !sameRows(h, g) {
			t.Errorf("%q is read as %v, %v", text, h, ok)
		}
	}
}

// textForms tell by regular expressions, one for each number of nodes, what is the text of a graph.
func textForms() []*regexp.Regexp {
	var forms []*regexp.Regexp
	for nodes := 1; nodes <= 9; nodes++ {
		word := ""
		for node := range nodes {
			word += "012345678"[node:node+1] + "?"
		}
		forms = append(forms, regexp.MustCompile(`\A`+word+strings.Repeat("/"+word, nodes-1)+`\z`))
	}
	return forms
}

func checkRead(t *testing.T, text string, forms []*regexp.Regexp) {
	t.Helper()
	want := slices.ContainsFunc(forms, func(form *regexp.Regexp) bool { return form.MatchString(text) })
	g, ok := impl.ReadGraph(text)
	if ok != want {
		t.Fatalf("%q: read %v, want %v", text, ok, want)
	}
	if !ok && len(g) != 0 {
		t.Fatalf("%q: rows %v beside false", text, g)
	}
	if ok && (!impl.GraphOk(g) || impl.GraphText(g) != text) {
		t.Fatalf("%q: read %v, the text of which is %q", text, g, impl.GraphText(g))
	}
}

func TestP65ReadTextsAreCanonical(t *testing.T) {
	forms := textForms()
	texts := []string{""}
	for range 5 {
		for _, text := range texts {
			checkRead(t, text, forms)
		}
		var longer []string
		for _, text := range texts {
			for _, sign := range []string{"0", "1", "2", "3", "9", "/", " ", "\xff"} {
				longer = append(longer, text+sign)
			}
		}
		texts = longer
	}
	for _, text := range texts {
		checkRead(t, text, forms)
	}
}

func TestP65OfChangedTexts(t *testing.T) {
	forms := textForms()
	for _, g := range mixedGraphs() {
		text := textByHand(g)
		for at := range len(text) + 1 {
			for _, sign := range []string{"0", "4", "8", "9", "/", "-", "\n", "\x00", ":"} {
				checkRead(t, text[:at]+sign+text[at:], forms)
			}
			if at < len(text) {
				checkRead(t, text[:at]+text[at+1:], forms)
			}
		}
	}
}

func TestReadGraphRefusesOtherTexts(t *testing.T) {
	for _, text := range []string{
		"1", "00", "10/", "2/", "/2", "0/0/3", " ", "0 ", " 0", "0\n", "\n", "/\n", "+0", "-0", "-", "a", "0,1/", "01", "0/10",
		"\\", "//////////", "/////////", strings.Repeat("0/", 9), "9////////", "////////9", ":////////", "\x00", "\xff/", "٠", "０/",
		strings.Repeat("/", 100000), strings.Repeat("0", 100000), strings.Repeat("012345678", 9), "0\x00/", "//2/3/4/5/6/7/8/", "0x0",
	} {
		if g, ok := impl.ReadGraph(text); ok || len(g) != 0 {
			t.Errorf("%q: %v, %v", text[:min(len(text), 20)], g, ok)
		}
	}
}

func TestArgumentsOfGraphsAreNotWrittenTo(t *testing.T) {
	list := []int{2, 0}
	given := [][][]int{mixedGraph(3, 1), mixedGraph(4, 2), emptyGraph(3), fullGraph(4), {{1}}, {{0, 2}, {0, 1}}, {{0, 1}, {0}}}
	for _, first := range given {
		for _, second := range given {
			g, h, l := roomyRows(first), roomyRows(second), roomy(list)
			impl.GraphOk(g)
			impl.ArrowsIn(g)
			impl.TurnedOf(g)
			impl.BesideOf(g, h)
			impl.PartOf(g, l)
			impl.SameGraph(g, h)
			impl.GraphText(g)
			if !unchangedRows(g, first) || !unchangedRows(h, second) || !unchangedRow(l, list) {
				t.Fatal("written to", first, second, list, "now", g, h, l)
			}
		}
	}
}

// checkNewMemory overwrites one result, and looks whether the arguments and other results stay as they were.
func checkNewMemory(t *testing.T, name string, first, second [][]int, list []int, result func(g, h [][]int, l []int) [][]int) {
	t.Helper()
	g, h, l := roomyRows(first), roomyRows(second), roomy(list)
	x := result(g, h, l)
	want := copyOf(x)
	y := result(g, h, l)
	checkOwnRows(t, x)
	if !unchangedRows(g, first) || !unchangedRows(h, second) || !unchangedRow(l, list) {
		t.Error(name, "shares memory with an argument")
	}
	if len(want) == 0 || !sameRows(y, want) || !sameRows(result(g, h, l), want) {
		t.Error(name, "shares memory with another result")
	}
}

func TestResultsOfGraphsAreNewMemory(t *testing.T) {
	for nodes := 1; nodes <= 4; nodes++ {
		first, second, list := mixedGraph(nodes, 1), mixedGraph(nodes, 2), numbersFrom(0, nodes)
		text := textByHand(first)
		for name, result := range map[string]func(g, h [][]int, l []int) [][]int{
			"TurnedOf":  func(g, h [][]int, l []int) [][]int { return impl.TurnedOf(g) },
			"PartOf":    func(g, h [][]int, l []int) [][]int { return impl.PartOf(g, l) },
			"BesideOf":  func(g, h [][]int, l []int) [][]int { x, _ := impl.BesideOf(g, h); return x },
			"ReadGraph": func(g, h [][]int, l []int) [][]int { x, _ := impl.ReadGraph(text); return x },
			"SameGraph": func(g, h [][]int, l []int) [][]int { x, _ := impl.SameGraph(g, g); return [][]int{x} },
		} {
			checkNewMemory(t, name, first, second, list, result)
		}
	}
}

// A graph may have rows that are one and the same slice, and be both arguments at once.
func TestGraphsMayShareRows(t *testing.T) {
	row := []int{0, 1, 1}
	g := [][]int{row, row, row}
	if h := impl.TurnedOf(g); !sameRows(h, [][]int{{0, 0, 0}, {1, 1, 1}, {1, 1, 1}}) {
		t.Fatal(h)
	}
	if x, ok := impl.BesideOf(g, g); !ok || impl.ArrowsIn(x) != 12 {
		t.Fatal(x, ok)
	}
	if order, ok := impl.SameGraph(g, g); !ok || !slices.Equal(order, []int{0, 1, 2}) {
		t.Fatal(order, ok)
	}
	if h := impl.PartOf(g, row[:2]); !sameRows(h, [][]int{{0, 1}, {0, 1}}) {
		t.Fatal(h)
	}
}
