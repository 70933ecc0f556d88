package tests

import (
	"slices"
	"testing"
)

// filler stands in spare capacity and in results that are overwritten; no graph has such a number.
const filler = 77

func sameRows(g, h [][]int) bool {
	return slices.EqualFunc(g, h, slices.Equal[[]int])
}

func copyOf(g [][]int) [][]int {
	var rows [][]int
	for _, row := range g {
		rows = append(rows, slices.Clone(row))
	}
	return rows
}

func emptyGraph(nodes int) [][]int {
	rows := make([][]int, nodes)
	for i := range rows {
		rows[i] = make([]int, nodes)
	}
	return rows
}

func fullGraph(nodes int) [][]int {
	rows := emptyGraph(nodes)
	for _, row := range rows {
		for to := range row {
			row[to] = 1
		}
	}
	return rows
}

// graphNumbered takes the arrows, in the order of rows, from the binary digits of a number, the lowest one first.
func graphNumbered(nodes int, number uint64) [][]int {
	rows := emptyGraph(nodes)
	for _, row := range rows {
		for to := range row {
			row[to] = int(number & 1)
			number >>= 1
		}
	}
	return rows
}

// mixedGraph is one of many graphs of a size without any rule to its arrows, always the same one for the same numbers.
func mixedGraph(nodes int, number uint64) [][]int {
	state := number*7919 + uint64(nodes)
	rows := emptyGraph(nodes)
	for _, row := range rows {
		for to := range row {
			state = state*6364136223846793005 + 1442695040888963407
			row[to] = int(state >> 63)
		}
	}
	return rows
}

// allGraphs are all graphs of 1 to so many nodes; of 3 nodes there are 512.
func allGraphs(most int) [][][]int {
	var list [][][]int
	for nodes := 1; nodes <= most; nodes++ {
		for number := range uint64(1) << (nodes * nodes) {
			list = append(list, graphNumbered(nodes, number))
		}
	}
	return list
}

// mixedGraphs are graphs of every size from 1 to 9, those without arrows and with all arrows among them.
func mixedGraphs() [][][]int {
	var list [][][]int
	for nodes := 1; nodes <= 9; nodes++ {
		list = append(list, emptyGraph(nodes), fullGraph(nodes))
		for number := range uint64(6) {
			list = append(list, mixedGraph(nodes, number))
		}
	}
	return list
}

// manyGraphs are all small graphs and some of every size.
func manyGraphs() [][][]int {
	return append(allGraphs(3), mixedGraphs()...)
}

func badGraphs() map[string][][]int {
	tenRows := emptyGraph(10)
	longLast, shortLast := emptyGraph(9), emptyGraph(9)
	longLast[8] = make([]int, 10)
	shortLast[8] = make([]int, 8)
	lastNumber := emptyGraph(9)
	lastNumber[8][8] = 2
	return map[string][][]int{
		"nil":               nil,
		"no rows":           {},
		"ten rows":          tenRows,
		"eleven rows":       emptyGraph(11),
		"nil row":           {nil},
		"empty row":         {{}},
		"short row":         {{0, 1}, {0}},
		"short first row":   {{0}, {0, 1}},
		"long row":          {{0, 1}, {0, 1, 0}},
		"long only row":     {{0, 0}},
		"nil among rows":    {{0, 1}, nil},
		"short last of 9":   shortLast,
		"long last of 9":    longLast,
		"two":               {{2}},
		"less than nought":  {{0, 0}, {-1, 0}},
		"filler":            {{0, filler}, {1, 0}},
		"least number":      {{-1 << 63}},
		"greatest number":   {{1<<63 - 1}},
		"beyond 32 bits":    {{1<<32 + 1}},
		"two in last of 9":  lastNumber,
		"two rows for one":  {{0}, {0}},
		"ten rows of one":   {{0}, {0}, {0}, {0}, {0}, {0}, {0}, {0}, {0}, {0}},
		"9 rows of 10":      emptyGraph(10)[:9],
		"one row for three": {{0, 0, 0}},
	}
}

// roomy is a copy of a row with spare capacity, in which a write would be seen.
func roomy(row []int) []int {
	more := append(slices.Clone(row), filler, filler, filler)
	return more[:len(row)]
}

func roomyRows(g [][]int) [][]int {
	rows := make([][]int, 0, len(g)+2)
	for _, row := range g {
		rows = append(rows, roomy(row))
	}
	return append(rows, []int{filler}, []int{filler})[:len(g)]
}

// unchangedRow reports whether a row that roomy made is as it was made, its spare capacity included.
func unchangedRow(row, before []int) bool {
	return slices.Equal(row, before) && slices.Equal(row[len(row):len(row)+3], []int{filler, filler, filler})
}

func unchangedRows(g, before [][]int) bool {
	if !slices.EqualFunc(g, before, unchangedRow) {
		return false
	}
	return sameRows(g[len(g):len(g)+2], [][]int{{filler}, {filler}})
}

// overwriteRow writes to all memory that a row reaches.
func overwriteRow(row []int) {
	for i := range row[:cap(row)] {
		row[:cap(row)][i] = filler
	}
}

// checkOwnRows checks that no row of a result reaches memory of another one, and overwrites all of them.
func checkOwnRows(t *testing.T, rows [][]int) {
	t.Helper()
	want := copyOf(rows)
	for i := range rows {
		if !slices.Equal(rows[i], want[i]) {
			t.Fatalf("row %d of a result shares memory with one before it", i)
		}
		overwriteRow(rows[i])
	}
	all := rows[:cap(rows)]
	for i := range all {
		all[i] = []int{filler}
	}
}
