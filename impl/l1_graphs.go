package impl

import (
	"iter"
	"slices"
	"strings"
)

// MaxNodes is the maximum number of nodes of a graph.
const MaxNodes = 9

// maxOrdered bounds graphs whose orders are tried one by one: a graph of 5 nodes has 120 of them.
const maxOrdered = 5

// graph is a struct around rows that may belong to a caller, so that no method writes to them.
type graph struct {
	rows [][]int
}

func (g graph) nodes() int {
	return len(g.rows)
}

func (g graph) arrow(from, to int) bool {
	return g.rows[from][to] == 1
}

func (g graph) ok() bool {
	if g.nodes() < 1 || g.nodes() > MaxNodes {
		return false
	}
	for _, row := range g.rows {
		if len(row) != g.nodes() {
			return false
		}
	}
	for from, to := range pairs(g.nodes()) {
		if number := g.rows[from][to]; number != 0 && number != 1 {
			return false
		}
	}
	return true
}

// arrows yields the two ends of every arrow, in the order of rows.
func (g graph) arrows() iter.Seq2[int, int] {
	return func(yield func(int, int) bool) {
		for from, to := range pairs(g.nodes()) {
			if g.arrow(from, to) && !yield(from, to) {
				return
			}
		}
	}
}

// makes reports whether the nodes in an order make another graph of as many nodes.
func (g graph) makes(h graph, order []int) bool {
	for from, to := range pairs(h.nodes()) {
		if g.arrow(order[from], order[to]) != h.arrow(from, to) {
			return false
		}
	}
	return true
}

// pairs yields all pairs of nodes, a node and itself among them, in the order of rows.
func pairs(nodes int) iter.Seq2[int, int] {
	return func(yield func(int, int) bool) {
		for from := range nodes {
			for to := range nodes {
				if !yield(from, to) {
					return
				}
			}
		}
	}
}

// rowsBy makes each row on its own, as no two rows of a result may share memory.
func rowsBy(nodes int, arrow func(from, to int) bool) [][]int {
	rows := make([][]int, nodes)
	for from := range rows {
		rows[from] = make([]int, nodes)
	}
	for from, to := range pairs(nodes) {
		if arrow(from, to) {
			rows[from][to] = 1
		}
	}
	return rows
}

// orders yields all orders of so many nodes, in the order of rows of numbers. Each is yielded in the same memory, so that one that is kept must be copied.
func orders(nodes int) iter.Seq[[]int] {
	return func(yield func([]int) bool) {
		ordersFrom(make([]int, 0, nodes), nodes, yield)
	}
}

// ordersFrom answers whether more orders are wanted.
func ordersFrom(begun []int, nodes int, yield func([]int) bool) bool {
	if len(begun) == nodes {
		return yield(begun)
	}
	for node := range nodes {
		if slices.Contains(begun, node) {
			continue
		}
		if !ordersFrom(append(begun, node), nodes, yield) {
			return false
		}
	}
	return true
}

// someNodes reports whether a list tells at least one of so many nodes, and each once.
func someNodes(list []int, nodes int) bool {
	if len(list) < 1 || len(list) > nodes {
		return false
	}
	for at, node := range list {
		if node < 0 || node >= nodes || slices.Contains(list[:at], node) {
			return false
		}
	}
	return true
}

// GraphOk reports whether rows tell for each two of 1..MaxNodes nodes, by their numbers from 0 on, whether there is an arrow from the first one to the second one: 1 or 0.
func GraphOk(g [][]int) bool {
	return graph{g}.ok()
}

// ArrowsIn returns how many arrows a graph (GraphOk) has; -1 for others.
func ArrowsIn(g [][]int) int {
	if !GraphOk(g) {
		return -1
	}
	count := 0
	for range (graph{g}).arrows() {
		count++
	}
	return count
}

// TurnedOf returns a graph (GraphOk) with all arrows turned round; nil for others.
func TurnedOf(g [][]int) [][]int {
	if !GraphOk(g) {
		return nil
	}
	before := graph{g}
	return rowsBy(before.nodes(), func(from, to int) bool {
		return before.arrow(to, from)
	})
}

// BesideOf returns two graphs (GraphOk) side by side, the nodes of the second one behind those of the first one, without arrows between them, and true; nil and false if these are more than MaxNodes, and for others.
func BesideOf(g [][]int, h [][]int) ([][]int, bool) {
	if !GraphOk(g) || !GraphOk(h) || len(g)+len(h) > MaxNodes {
		return nil, false
	}
	first, second := graph{g}, graph{h}
	edge := first.nodes()
	return rowsBy(edge+second.nodes(), func(from, to int) bool {
		if from < edge && to < edge {
			return first.arrow(from, to)
		}
		return from >= edge && to >= edge && second.arrow(from-edge, to-edge)
	}), true
}

// PartOf returns the graph of some nodes of a graph (GraphOk), told by their numbers, at least one, each once, in the order in which they are told, with all arrows between them; nil for others.
func PartOf(g [][]int, list []int) [][]int {
	if !GraphOk(g) || !someNodes(list, len(g)) {
		return nil
	}
	whole := graph{g}
	return rowsBy(len(list), func(from, to int) bool {
		return whole.arrow(list[from], list[to])
	})
}

// SameGraph returns the first order, in the order of rows of numbers (the lesser number at the first difference first), in which the nodes of a graph (GraphOk) make another one (PartOf), both of as many nodes, at most 5, and true; nil and false if there is none, and for others.
func SameGraph(g [][]int, h [][]int) ([]int, bool) {
	if !GraphOk(g) || !GraphOk(h) || len(g) != len(h) || len(g) > maxOrdered {
		return nil, false
	}
	first, second := graph{g}, graph{h}
	for order := range orders(first.nodes()) {
		if first.makes(second, order) {
			return slices.Clone(order), true
		}
	}
	return nil, false
}

// GraphText returns the text of a graph (GraphOk): for each node the numbers of the nodes to which it has arrows, in ascending order, without anything between them, with a slash between each two nodes; "" for others.
func GraphText(g [][]int) string {
	if !GraphOk(g) {
		return ""
	}
	texts := make([]string, len(g))
	for from, to := range (graph{g}).arrows() {
		texts[from] += string(digitOf(to))
	}
	return strings.Join(texts, "/")
}

// ReadGraph returns the graph whose GraphText a text is, and true; nil and false if there is none; the empty text is that of one node without arrows.
func ReadGraph(s string) ([][]int, bool) {
	nodes := strings.Count(s, "/") + 1
	if nodes > MaxNodes {
		return nil, false
	}
	texts := strings.Split(s, "/")
	for _, text := range texts {
		if !ascendingDigits(text, nodes) {
			return nil, false
		}
	}
	return rowsBy(nodes, func(from, to int) bool {
		return strings.IndexByte(texts[from], digitOf(to)) >= 0
	}), true
}

// digitOf needs one digit only, as no node has a number above 8.
func digitOf(node int) byte {
	return '0' + byte(node)
}

// ascendingDigits reports whether a text consists of numbers of nodes, each greater than the one before it.
func ascendingDigits(text string, nodes int) bool {
	least := 0
	for at := range len(text) {
		node := int(text[at]) - '0'
		if node < least || node >= nodes {
			return false
		}
		least = node + 1
	}
	return true
}
