package cover_test

import (
	"fmt"
	"math"
	"math/rand/v2"
	"slices"
	"testing"

	"dauber/api"
	"dauber/cover"
)

// expectEitherTableOrGap checks all calls for sums that are in their range.
func expectEitherTableOrGap(t *testing.T, rows, columns []int) (hasTable bool) {
	t.Helper()
	what := fmt.Sprint("the sums ", rows, columns)
	table, e := cover.Table(rows, columns)
	k, is := cover.Gap(rows, columns)
	switch {
	case e == api.OK && !isTable(table, rows, columns):
		t.Errorf("%s: %v is no table", what, table)
	case is != (e == api.ErrSums):
		t.Errorf("%s: error %d, and a gap: %v", what, e, is)
	case is && !isGap(rows, columns, k):
		t.Errorf("%s: %d is no gap", what, k)
	}
	if e != api.OK {
		expectError(t, what, e, api.ErrSums, table)
	}
	if !is {
		expectNothing(t, what, k)
	}
	for other := -3; other <= len(rows)+3; other++ {
		want := isGap(rows, columns, other)
		if cover.IsGap(rows, columns, other) != want {
			t.Errorf("%s: IsGap(%d) is not %v", what, other, want)
		}
		if want && (!is || k > other) {
			t.Errorf("%s: %d, %v is not the least gap: %d is one", what, k, is, other)
		}
	}
	return e == api.OK
}

// P5.1, P5.7: all small sums, of which the oracle tries all tables.
func TestSmallSums(t *testing.T) {
	tables := 0
	for _, size := range [][2]int{{0, 0}, {0, 2}, {2, 0}, {1, 1}, {1, 3}, {3, 1}, {2, 2}, {2, 3}, {3, 2}, {3, 3}} {
		for _, rows := range listsOf(size[0], 5) {
			for _, columns := range listsOf(size[1], 4) {
				want := total(rows) == total(columns) && hasTable(rows, columns)
				if want {
					tables++
				}
				if expectEitherTableOrGap(t, rows, columns) != want {
					t.Errorf("the sums %v, %v: there is a table: %v", rows, columns, want)
				}
			}
		}
	}
	if tables < 100 {
		t.Errorf("only %d sums had a table", tables)
	}
}

// sumsOf returns the sums of a random table.
func sumsOf(r *rand.Rand, n, m, density int) (rows, columns []int) {
	rows, columns = make([]int, n), make([]int, m)
	for i := range rows {
		for j := range columns {
			if r.IntN(10) < density {
				rows[i]++
				columns[j]++
			}
		}
	}
	return rows, columns
}

// P5.1, P5.7: sums of tables of up to 32 rows and columns have a table; with some ones moved they may have a gap.
func TestLargeSums(t *testing.T) {
	r := newRandom()
	gaps := map[bool]int{}
	for i := range 3000 {
		n, m := r.IntN(33), r.IntN(33)
		if i < 30 {
			n, m = 32, 32
		}
		rows, columns := sumsOf(r, n, m, r.IntN(11))
		if !expectEitherTableOrGap(t, rows, columns) {
			t.Errorf("no table for the sums %v, %v of one", rows, columns)
		}
		for _, sums := range [][]int{rows, columns} {
			for range r.IntN(30) {
				if len(sums) == 0 {
					break
				}
				a, b := r.IntN(len(sums)), r.IntN(len(sums))
				if sums[a] > 0 && sums[b] < 32 && sums[a] <= sums[b]+1 {
					sums[a]--
					sums[b]++
				}
			}
		}
		gaps[expectEitherTableOrGap(t, rows, columns)]++
	}
	if gaps[true] < 100 || gaps[false] < 100 {
		t.Errorf("tables or gaps are too few: %v", gaps)
	}
}

// P5.1: sums at the limits, and examples.
func TestSumsAtLimits(t *testing.T) {
	for _, x := range []struct {
		rows, columns []int
		gap           int
		is            bool
	}{
		{[]int{2, 2}, []int{2, 1, 1}, 0, false},
		{[]int{3, 1}, []int{2, 2}, 1, true},
		{[]int{1}, []int{0}, -1, true},
		{[]int{1}, []int{1, 1}, -1, true},
		{nil, nil, 0, false},
		{nil, []int{0, 0}, 0, false},
		{[]int{0, 0}, nil, 0, false},
		{nil, []int{1}, -1, true},
		{[]int{1}, nil, -1, true},
		{[]int{32}, []int{32}, 1, true},
		{[]int{1, 1}, []int{2, 0}, 0, false},
		{[]int{1, 1}, []int{2}, 0, false},
		{[]int{2}, []int{1, 1}, 0, false},
		{[]int{1, 1, 0}, []int{0, 3}, -1, true},
		{[]int{1, 1, 1}, []int{0, 3}, 0, false},
		{[]int{2, 2, 0}, []int{1, 3, 0}, 2, true},
		{[]int{0, 2, 2}, []int{3, 1, 0}, 2, true},
		{[]int{3, 3, 0, 0}, []int{2, 2, 2}, 0, false},
		{[]int{2, 2, 0}, []int{4}, 1, true},
		{[]int{1, 1, 1}, []int{3}, 0, false},
		{[]int{1, 1}, []int{1, 1, 0}, 0, false},
		{[]int{1, 1, 0}, []int{3, 0}, -1, true},
		{[]int{2, 2, 2}, []int{3, 2, 1}, 0, false},
		{[]int{3, 2, 1}, []int{2, 2, 2}, 0, false},
		{[]int{3, 3}, []int{3, 2, 1}, 2, true},
		{[]int{32, 0}, []int{16, 16}, 1, true},
		{repeated(32, 32), repeated(32, 32), 0, false},
		{repeated(32, 32), repeated(31, 32), -1, true},
		{repeated(1, 32), []int{32}, 0, false},
		{[]int{32}, repeated(1, 32), 0, false},
		{append(repeated(32, 16), repeated(0, 16)...), repeated(16, 32), 0, false},
		{append(repeated(0, 16), repeated(32, 16)...), append(repeated(15, 16), repeated(17, 16)...), 16, true},
	} {
		k, is := cover.Gap(x.rows, x.columns)
		if k != x.gap || is != x.is {
			t.Errorf("Gap(%v, %v): %d, %v; want %d, %v", x.rows, x.columns, k, is, x.gap, x.is)
		}
		expectEitherTableOrGap(t, x.rows, x.columns)
		for _, far := range []int{-2, len(x.rows) + 1, 33, 64, math.MinInt, math.MaxInt} {
			if cover.IsGap(x.rows, x.columns, far) {
				t.Errorf("IsGap(%v, %v, %d) is true", x.rows, x.columns, far)
			}
		}
	}
}

// P5.1: too many sums come before sums that are out of range.
func TestSumErrors(t *testing.T) {
	with := func(n, at, sum int) []int {
		list := repeated(1, n)
		list[at] = sum
		return list
	}
	for _, x := range []struct {
		rows, columns []int
		want          api.Errno
	}{
		{repeated(1, 33), repeated(1, 32), api.ErrLong},
		{repeated(1, 32), repeated(1, 33), api.ErrLong},
		{repeated(0, 33), nil, api.ErrLong},
		{nil, repeated(0, 33), api.ErrLong},
		{with(33, 0, -1), []int{1}, api.ErrLong},
		{[]int{-1}, repeated(1, 33), api.ErrLong},
		{with(33, 5, 33), []int{33}, api.ErrLong},
		{make([]int, 1<<20), nil, api.ErrLong},
		{[]int{-1}, []int{1}, api.ErrArg},
		{[]int{1}, []int{-1}, api.ErrArg},
		{[]int{-1}, []int{-1}, api.ErrArg},
		{[]int{33}, repeated(1, 32), api.ErrArg},
		{repeated(1, 32), []int{33}, api.ErrArg},
		{with(32, 31, 33), repeated(1, 32), api.ErrArg},
		{repeated(1, 32), with(32, 31, -1), api.ErrArg},
		{[]int{1, -1}, nil, api.ErrArg},
		{nil, []int{0, -1}, api.ErrArg},
		{[]int{math.MaxInt, math.MaxInt, 2}, nil, api.ErrArg},
		{[]int{math.MinInt}, []int{math.MinInt}, api.ErrArg},
		{[]int{32, 32}, []int{1}, api.ErrSums},
		{[]int{32}, repeated(1, 31), api.ErrSums},
	} {
		what := fmt.Sprint("Table ", x.rows[:min(len(x.rows), 40)], x.columns)
		table, e := cover.Table(x.rows, x.columns)
		expectError(t, what, e, x.want, table)
		k, is := cover.Gap(x.rows, x.columns)
		if is != (x.want == api.ErrSums) {
			t.Errorf("%s: Gap is %d, %v", what, k, is)
		}
		if x.want == api.ErrSums {
			continue
		}
		expectNothing(t, what, k)
		for _, k := range []int{-1, 0, 1, 2, 33} {
			if cover.IsGap(x.rows, x.columns, k) {
				t.Errorf("%s: IsGap(%d) is true", what, k)
			}
		}
	}
}

// P5.1: the order of the sums does not matter.
func TestSumsInAnyOrder(t *testing.T) {
	r := newRandom()
	for range 300 {
		rows, columns := sumsOf(r, r.IntN(8)+1, r.IntN(8)+1, 5)
		i, j := r.IntN(len(rows)), r.IntN(len(columns))
		rows[i], columns[j] = rows[i]+r.IntN(3), columns[j]+r.IntN(3)
		k, is := cover.Gap(rows, columns)
		for range 3 {
			mixed := slices.Clone(rows)
			r.Shuffle(len(mixed), func(i, j int) { mixed[i], mixed[j] = mixed[j], mixed[i] })
			other, also := cover.Gap(mixed, columns)
			if other != k || also != is {
				t.Errorf("Gap(%v, %v): %d, %v; as %v: %d, %v", rows, columns, k, is, mixed, other, also)
			}
		}
	}
}
