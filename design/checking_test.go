package design_test

import (
	"fmt"
	"math"
	"math/rand/v2"
	"slices"
	"testing"

	"dauber/api"
	"dauber/design"
)

// listsOf returns all lists of n of these blocks.
func listsOf(blocks [][]int, n int) [][][]int {
	if n == 0 {
		return [][][]int{nil}
	}
	var all [][][]int
	for _, shorter := range listsOf(blocks, n-1) {
		for _, block := range blocks {
			all = append(all, append(slices.Clone(shorter), block))
		}
	}
	return all
}

// expectChecked compares Check, Dual and Complement with the definitions, and reports whether the blocks are a design.
func expectChecked(t *testing.T, v int, blocks [][]int) bool {
	t.Helper()
	what := fmt.Sprint(v, " points and the blocks ", blocks)
	want, is := parametersOf(v, blocks)
	got, e := design.Check(v, blocks)
	dual, e1 := design.Dual(v, blocks)
	others, e2 := design.Complement(v, blocks)
	if !is {
		expectError(t, "Check of "+what, e, api.ErrDesign, got)
		expectError(t, "Dual of "+what, e1, api.ErrDesign, dual)
		expectError(t, "Complement of "+what, e2, api.ErrDesign, others)
		return false
	}
	if got != want || e != api.OK {
		t.Errorf("Check of %s: %v, %d; want %v", what, got, e, want)
	}
	if got.B*got.K != got.V*got.R || got.R*(got.K-1) != got.L*(got.V-1) {
		t.Errorf("Check of %s: %v do not go together", what, got)
	}
	wantDual := make([][]int, v)
	for p := range v {
		wantDual[p] = slices.DeleteFunc(from(0, len(blocks)), func(b int) bool { return !slices.Contains(blocks[b], p) })
	}
	expectRows(t, "Dual of "+what, dual, e1, wantDual)
	var wantOthers [][]int
	for _, block := range blocks {
		wantOthers = append(wantOthers, slices.DeleteFunc(from(0, v), func(p int) bool { return slices.Contains(block, p) }))
	}
	expectRows(t, "Complement of "+what, others, e2, wantOthers)
	return true
}

// P6.1: all lists of a few blocks on 3 and 4 points, among them empty ones, blocks with one point and with all, twice, not rising or out of range.
func TestSmallLists(t *testing.T) {
	three := append(subsets(3, 2), []int{}, []int{0}, []int{0, 1, 2}, []int{1, 0}, []int{1, 1}, []int{-1, 0}, []int{2, 3})
	four := slices.Concat(subsets(4, 2), subsets(4, 3), [][]int{{0, 0, 1}, {0, 2, 1}, {1, 2, 4}})
	designs := 0
	for v, blocks := range map[int][][]int{3: three, 4: four} {
		for n := range 5 {
			for _, list := range listsOf(blocks, n) {
				if expectChecked(t, v, list) {
					designs++
				}
			}
		}
	}
	for _, list := range listsOf(subsets(4, 2), 6) {
		if expectChecked(t, 4, list) {
			designs++
		}
	}
	// The three pairs of 3 points, the four triples of 4, and the six pairs of 4, each in any order.
	if designs != 6+24+720 {
		t.Errorf("%d designs; want 750", designs)
	}
}

// P6.1: designs with their parameters, also mixed.
func TestSamples(t *testing.T) {
	r := newRandom()
	for _, s := range samples() {
		for range 3 {
			p, e := design.Check(s.v, s.blocks)
			if p != s.params || e != api.OK {
				t.Errorf("Check of %s: %v, %d; want %v", s.name, p, e, s.params)
			}
			expectChecked(t, s.v, s.blocks)
			s.blocks = mixed(r, s.v, s.blocks)
		}
	}
}

// spoiled returns the blocks with a change after which they are hardly a design.
func spoiled(r *rand.Rand, v int, blocks [][]int) [][]int {
	result := slices.Clone(blocks)
	i := r.IntN(len(result))
	block := slices.Clone(result[i])
	at := r.IntN(len(block))
	switch r.IntN(9) {
	case 0:
		return slices.Delete(result, i, i+1)
	case 1:
		return append(result, block)
	case 2:
		block = slices.Delete(block, at, at+1)
	case 3:
		block = append(block, v-1)
	case 4:
		block[at] = r.IntN(v)
		slices.Sort(block)
	case 5:
		slices.Reverse(block)
	case 6:
		block[at] = []int{-1, v, v + 1, math.MaxInt, math.MinInt}[r.IntN(5)]
	case 7:
		block[at] = block[0]
	case 8:
		block = slices.Clone(result[r.IntN(len(result))])
	}
	result[i] = block
	return result
}

// P6.1: designs with a change, most of which are none any more.
func TestSpoiledDesigns(t *testing.T) {
	r := newRandom()
	is := map[bool]int{}
	for _, s := range samples() {
		for range 40 {
			is[expectChecked(t, s.v, spoiled(r, s.v, s.blocks))]++
		}
	}
	if is[true] < 10 || is[false] < 1000 {
		t.Errorf("designs and others: %v", is)
	}
}

// P6.1: pairs that are together too often and others too seldom, although each point is in the same number of blocks.
func TestUnbalanced(t *testing.T) {
	for _, x := range []struct {
		v      int
		blocks [][]int
	}{
		{4, [][]int{{0, 1}, {1, 2}, {2, 3}, {0, 3}}},
		{4, [][]int{{0, 1}, {0, 1}, {2, 3}, {2, 3}, {0, 2}, {1, 3}}},
		{6, [][]int{{0, 1}, {2, 3}, {4, 5}}},
		{6, [][]int{{0, 1, 2}, {3, 4, 5}}},
		{7, developed(7, 0, 1, 2)},
		{13, developed(13, 0, 1, 3, 8)},
		{7, append(example()[:6], []int{0, 2, 5})},
		{7, append(developed(7, 0, 1, 3), developed(7, 0, 1, 2)...)},
	} {
		if expectChecked(t, x.v, x.blocks) {
			t.Errorf("the oracle takes %v", x.blocks)
		}
	}
}

// everyRow makes the calls that take blocks, and expects the same error of each of them, or, if Resolve has an error of its own, that.
func everyRow(t *testing.T, what string, v int, blocks [][]int, want, ofResolve api.Errno) {
	t.Helper()
	p, e := design.Check(v, blocks)
	if want != api.OK {
		expectError(t, "Check of "+what, e, want, p)
	}
	dual, e1 := design.Dual(v, blocks)
	others, e2 := design.Complement(v, blocks)
	for _, x := range []struct {
		what string
		rows [][]int
		e    api.Errno
	}{{"Dual of ", dual, e1}, {"Complement of ", others, e2}} {
		switch {
		case want != api.OK:
			expectError(t, x.what+what, x.e, want, x.rows)
		case x.e != api.OK || len(x.rows) == 0:
			t.Errorf("%s%s: %d rows, %d", x.what, what, len(x.rows), x.e)
		}
	}
	classes, e := design.Resolve(v, blocks)
	expectError(t, "Resolve of "+what, e, ofResolve, classes)
}

// P6.1: the limits of points and blocks, and which error comes first.
func TestCheckErrors(t *testing.T) {
	none := make([][]int, 2001)
	wrong := [][]int{{0, 0}}
	for _, x := range []struct {
		what   string
		v      int
		blocks [][]int
		want   api.Errno
	}{
		{"no points", 0, nil, api.ErrArg},
		{"2 points", 2, [][]int{{0, 1}}, api.ErrArg},
		{"2 points and no blocks", 2, nil, api.ErrArg},
		{"2 points and too many blocks", 2, none, api.ErrArg},
		{"-1 points", -1, wrong, api.ErrArg},
		{"-7 points", -7, example(), api.ErrArg},
		{"the least number of points", math.MinInt, example(), api.ErrArg},
		{"the greatest number of points", math.MaxInt, example(), api.ErrArg},
		{"201 points", 201, nil, api.ErrArg},
		{"201 points and too many blocks", 201, none, api.ErrArg},
		{"201 points of a design", 201, sample{v: 201, blocks: subsets(201, 1)}.complement().blocks, api.ErrArg},
		{"too many blocks that are none", 3, none, api.ErrLong},
		{"2001 blocks", 3, repeated(subsets(3, 2), 667), api.ErrLong},
		{"2004 blocks", 4, repeated(subsets(4, 3), 501), api.ErrLong},
		{"too many blocks, the first of them wrong", 200, append(wrong, repeated(subsets(3, 2), 667)...), api.ErrLong},
		{"3 points and no blocks", 3, nil, api.ErrDesign},
		{"200 points and no blocks", 200, [][]int{}, api.ErrDesign},
		{"2000 blocks that are none", 200, none[:2000], api.ErrDesign},
		{"2000 blocks", 3, repeated(subsets(3, 2), 667)[:2000], api.ErrDesign},
		{"200 points and 64 blocks", 200, none[:64], api.ErrDesign},
		{"65 points and 65 blocks", 65, none[:65], api.ErrDesign},
		{"a long block", 3, [][]int{from(0, 1<<20)}, api.ErrDesign},
		{"blocks with one point", 5, subsets(5, 1), api.ErrDesign},
		{"blocks with all points", 5, repeated([][]int{from(0, 5)}, 5), api.ErrDesign},
		{"blocks without points", 5, none[:5], api.ErrDesign},
		{"blocks of different sizes", 4, append(subsets(4, 2), subsets(4, 3)...), api.ErrDesign},
	} {
		everyRow(t, x.what, x.v, x.blocks, x.want, x.want)
	}
}

// P6.1: designs that are as large as possible, and those that only Resolve does not take: of 65 points or blocks.
func TestLargestDesigns(t *testing.T) {
	allBut := func(v int) [][]int { return sample{v: v, blocks: subsets(v, 1)}.complement().blocks }
	for _, x := range []struct {
		what      string
		v         int
		blocks    [][]int
		want      design.Params
		ofResolve api.Errno
	}{
		{"1998 blocks of 3 points", 3, repeated(subsets(3, 2), 666), params(3, 1998, 1332, 2, 666), api.ErrLong},
		{"2000 blocks of 4 points", 4, repeated(subsets(4, 3), 500), params(4, 2000, 1500, 3, 1000), api.ErrLong},
		{"2000 blocks of 200 points", 200, repeated(allBut(200), 10), params(200, 2000, 1990, 199, 1980), api.ErrLong},
		{"1953 blocks of 63 points", 63, subsets(63, 2), params(63, 1953, 62, 2, 1), api.ErrLong},
		{"squares modulo 199", 199, developed(199, squares(199)...), params(199, 199, 99, 99, 49), api.ErrLong},
		{"65 points", 65, allBut(65), params(65, 65, 64, 64, 63), api.ErrLong},
		{"64 points", 64, allBut(64), params(64, 64, 63, 63, 62), api.ErrNone},
		{"65 blocks", 13, repeated(developed(13, 0, 1, 3, 9), 5), params(13, 65, 20, 4, 5), api.ErrLong},
		{"66 blocks, with a resolution", 12, subsets(12, 2), params(12, 66, 11, 2, 1), api.ErrLong},
		{"66 blocks of 4 points, with a resolution", 4, repeated(subsets(4, 2), 11), params(4, 66, 33, 2, 11), api.ErrLong},
		{"64 blocks", 16, repeated(square(4), 4), params(16, 64, 24, 6, 8), api.ErrNone},
	} {
		p, e := design.Check(x.v, x.blocks)
		if p != x.want || e != api.OK {
			t.Errorf("%s: %v, %d; want %v", x.what, p, e, x.want)
		}
		everyRow(t, x.what, x.v, x.blocks, api.OK, x.ofResolve)
		dual, _ := design.Dual(x.v, x.blocks)
		if len(dual) != x.v || len(dual[0]) != x.want.R || len(dual[x.v-1]) != x.want.R {
			t.Errorf("%s: the dual has %d blocks, or not %d points in one", x.what, len(dual), x.want.R)
		}
	}
}

// P6.1: blocks of all points but one have a complement, which is no design.
func TestComplementOfAllButOne(t *testing.T) {
	for v := 3; v <= 12; v++ {
		others, e := design.Complement(v, subsets(v, v-1))
		var want [][]int
		for p := range v {
			want = append(want, []int{v - 1 - p})
		}
		expectRows(t, fmt.Sprint("Complement of ", v, " points"), others, e, want)
		p, e := design.Check(v, others)
		expectError(t, fmt.Sprint("Check of the complement of ", v, " points"), e, api.ErrDesign, p)
	}
}
