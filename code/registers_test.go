package code_test

import (
	"math"
	"math/rand/v2"
	"slices"
	"testing"

	"dauber/api"
	"dauber/code"
	"dauber/field"
)

// isMade reports whether any register with that many taps makes the sequence, by elimination of the unknown taps.
func isMade(f *field.Field, s []int, taps int) bool {
	var rows [][]int // the last number of a row is the sum that the others, each times its tap, must have
	for i := taps; i < len(s); i++ {
		row := slices.Clone(s[i-taps : i])
		slices.Reverse(row)
		rows = append(rows, append(row, f.Sub(0, s[i])))
	}
	for column := range taps {
		first := slices.IndexFunc(rows, func(row []int) bool { return row[column] != 0 })
		if first < 0 {
			continue
		}
		pivot := rows[first]
		rows = slices.Delete(rows, first, first+1)
		for _, row := range rows {
			times, _ := f.Div(row[column], pivot[column])
			for j := column; j <= taps && times != 0; j++ {
				row[j] = f.Sub(row[j], f.Mul(times, pivot[j]))
			}
		}
	}
	return !slices.ContainsFunc(rows, func(row []int) bool { return row[taps] != 0 })
}

// fewest returns how many taps the shortest register has that makes the sequence, by trying all registers.
func fewest(f *field.Field, s []int) int {
	for n := range s {
		for taps := range lists(0, f.Order()-1, n) {
			if makes(f, taps, s) {
				return n
			}
		}
	}
	return len(s)
}

// P3.6, P3.11: Shortest and Profile of all short sequences: no register with less taps makes them.
func TestShortest(t *testing.T) {
	for _, x := range [][2]int{{2, 9}, {3, 6}, {4, 5}, {5, 4}, {7, 4}, {8, 3}, {9, 3}} {
		f := fieldOf(x[0])
		known := map[string]int{} // the fewest taps, by the sequence
		for n := range x[1] + 1 {
			for s := range lists(0, x[0]-1, n) {
				known[key(s)] = fewest(f, s)
				taps, e := code.Shortest(x[0], s)
				if e != api.OK || len(taps) != known[key(s)] || !areElements(x[0], taps) || !makes(f, taps, s) {
					t.Fatalf("Shortest(%d, %v): %v, %d; want %d taps", x[0], s, taps, e, known[key(s)])
				}
				var want []int
				for end := range s {
					want = append(want, known[key(s[:end+1])])
				}
				profile, e := code.Profile(x[0], s)
				expectList(t, "Profile", profile, e, want)
			}
		}
	}
}

func key(s []int) string {
	var k []byte
	for _, a := range s {
		k = append(k, byte(a))
	}
	return string(k)
}

func areElements(q int, list []int) bool {
	return !slices.ContainsFunc(list, func(a int) bool { return a < 0 || a >= q })
}

// continued returns the sequence of n elements that begins so and that the register makes.
func continued(f *field.Field, taps, first []int, n int) []int {
	s := slices.Clone(first)
	for len(s) < n {
		total := 0
		for j, c := range taps {
			total = f.Sub(total, f.Mul(c, s[len(s)-j-1]))
		}
		s = append(s, total)
	}
	return s
}

// sequences returns long sequences: of any elements, made by a register, and of zeros with some other elements.
func sequences(f *field.Field, r *rand.Rand, n int) [][]int {
	q := f.Order()
	length := r.IntN(n/2 + 1)
	list := [][]int{anyList(r, q, n), make([]int, n), continued(f, anyList(r, q, length), anyList(r, q, length), n)}
	for _, place := range []int{0, n / 3, n - 1} {
		s := make([]int, n)
		s[place] = 1 + r.IntN(q-1)
		list = append(list, s)
	}
	broken := slices.Clone(list[2])
	broken[n-1] = f.Add(broken[n-1], 1)
	sparse := make([]int, n)
	for range 4 {
		sparse[r.IntN(n)] = r.IntN(q)
	}
	return append(list, broken, sparse)
}

// checkSequence checks the shortest register and the profile; that no shorter one makes the beginnings at which the profile changes.
func checkSequence(t *testing.T, f *field.Field, s []int) {
	t.Helper()
	q := f.Order()
	taps, e := code.Shortest(q, s)
	if e != api.OK || !areElements(q, taps) || !makes(f, taps, s) {
		t.Errorf("Shortest(%d, %v): %v, %d", q, s, taps, e)
	}
	profile, e := code.Profile(q, s)
	if e != api.OK || len(profile) != len(s) || profile[len(s)-1] != len(taps) {
		t.Fatalf("Profile(%d, %v): %v, %d", q, s, profile, e)
	}
	length, checked := 0, 0
	for i, next := range profile {
		if next != length && next != i+1-length {
			t.Errorf("Profile(%d, %v): %v", q, s, profile)
		}
		if next != length && checked < 3 || i == len(s)-1 && next > 0 {
			checked++
			if isMade(f, s[:i+1], next-1) || !isMade(f, s[:i+1], next) {
				t.Errorf("Profile(%d, %v): %v is wrong at %d", q, s, profile, i)
			}
		}
		length = next
	}
}

// P3.6, P3.11: long sequences.
func TestShortestLarge(t *testing.T) {
	r := newRandom()
	for _, q := range []int{2, 3, 4, 7, 9, 64, 256, 65521, 65536, 59049} {
		f := fieldOf(q)
		for _, n := range []int{1, 2, 3, 10, 63, 64, 65, 199, 200} {
			if q > 256 && n < 100 && n != 10 {
				continue
			}
			for _, s := range sequences(f, r, n) {
				checkSequence(t, f, s)
			}
		}
	}
}

// P3.6: the examples of the chapter, and sequences of which the shortest register is known.
func TestShortestExamples(t *testing.T) {
	for _, x := range []struct {
		order      int
		s, profile []int
	}{
		{2, nil, nil},
		{2, []int{}, nil},
		{65536, []int{0}, []int{0}},
		{65536, []int{65535}, []int{1}},
		{2, []int{0, 0, 1, 1, 0, 1}, []int{0, 0, 3, 3, 3, 3}},
		{5, []int{1, 2, 4, 3}, []int{1, 1, 1, 1}},
		{7, []int{0, 0, 0}, []int{0, 0, 0}},
		{7, []int{0, 0, 5}, []int{0, 0, 3}},
		{7, []int{5, 0, 0, 0}, []int{1, 1, 1, 1}},
		{7, []int{5, 0, 0, 2}, []int{1, 1, 1, 3}},
		{3, []int{1, 1, 2, 0, 2, 2, 1, 0}, []int{1, 1, 2, 2, 2, 2, 2, 2}}, // Fibonacci's numbers
		{2, []int{1, 0, 0, 1, 0, 1, 1, 1, 0, 0, 1, 0, 1, 1}, []int{1, 1, 1, 3, 3, 3, 3, 3, 3, 3, 3, 3, 3, 3}},
	} {
		profile, e := code.Profile(x.order, x.s)
		expectList(t, "Profile", profile, e, x.profile)
		taps, e := code.Shortest(x.order, x.s)
		if e != api.OK || len(x.s) > 0 && len(taps) != x.profile[len(x.s)-1] || len(x.s) == 0 && len(taps) > 0 || !makes(fieldOf(x.order), taps, x.s) {
			t.Errorf("Shortest(%d, %v): %v, %d", x.order, x.s, taps, e)
		}
	}
	for _, x := range []struct {
		order   int
		s, taps []int // the only taps
	}{
		{5, []int{1, 2, 4, 3}, []int{3}},
		{3, []int{1, 1, 2, 0, 2, 2, 1, 0}, []int{2, 2}},
		{7, []int{3, 0, 0, 0}, []int{0}},
		{7, []int{1, 2, 0, 0, 0, 0}, []int{0, 0}},
		{4, []int{1, 2, 3, 1}, []int{2}},
	} {
		taps, e := code.Shortest(x.order, x.s)
		expectList(t, "Shortest", taps, e, x.taps)
	}
}

// P3.6: Makes of all short registers and sequences.
func TestMakes(t *testing.T) {
	for _, x := range [][2]int{{2, 5}, {3, 3}, {4, 3}, {5, 2}} {
		f := fieldOf(x[0])
		for n := range x[1] + 1 {
			for s := range lists(0, x[0]-1, n) {
				for m := range n + 2 {
					for taps := range lists(0, x[0]-1, m) {
						is, e := code.Makes(x[0], taps, s)
						if m > n {
							expectError(t, "Makes of more taps than elements", e, api.ErrArg, is)
						} else if e != api.OK || is != makes(f, taps, s) {
							t.Errorf("Makes(%d, %v, %v): %t, %d", x[0], taps, s, is, e)
						}
					}
				}
			}
		}
	}
}

// P3.6: Makes of long sequences, which are broken at one element.
func TestMakesLarge(t *testing.T) {
	r := newRandom()
	for _, q := range []int{2, 9, 256, 65521, 65536} {
		f := fieldOf(q)
		for range 10 {
			n := 150 + r.IntN(51)
			taps := anyList(r, q, r.IntN(n))
			s := continued(f, taps, anyList(r, q, len(taps)), n)
			if is, e := code.Makes(q, taps, s); !is || e != api.OK {
				t.Errorf("Makes(%d, %v, %v): %t, %d", q, taps, s, is, e)
			}
			for _, place := range []int{n - 1, len(taps), len(taps) + r.IntN(n-len(taps))} {
				broken := slices.Clone(s)
				broken[place] = f.Add(broken[place], 1+r.IntN(q-1))
				if is, e := code.Makes(q, taps, broken); is || e != api.OK {
					t.Errorf("Makes(%d, %v, %v): %t, %d", q, taps, broken, is, e)
				}
			}
		}
	}
	whole := anyList(r, 7, 200)
	if is, e := code.Makes(7, anyList(r, 7, 200), whole); !is || e != api.OK {
		t.Errorf("Makes of as many taps as elements: %t, %d", is, e)
	}
	if is, e := code.Makes(7, nil, make([]int, 200)); !is || e != api.OK {
		t.Errorf("Makes of zeros: %t, %d", is, e)
	}
	if is, e := code.Makes(7, nil, nil); !is || e != api.OK {
		t.Errorf("Makes of nothing: %t, %d", is, e)
	}
	for _, place := range []int{0, 100, 199} {
		s := make([]int, 200)
		s[place] = 3
		if is, e := code.Makes(7, nil, s); is || e != api.OK {
			t.Errorf("Makes of no taps: %t, %d", is, e)
		}
	}
}

// P3.6: the errors of Shortest, Makes and Profile, in their order.
func TestRegisterErrors(t *testing.T) {
	with := func(n, place, a int) []int {
		s := make([]int, n)
		s[place] = a
		return s
	}
	for _, x := range []struct {
		name  string
		order int
		s     []int
		e     api.Errno
	}{
		{"200 elements", 7, make([]int, 200), api.OK},
		{"201 elements", 7, make([]int, 201), api.ErrLong},
		{"1000 elements", 7, make([]int, 1000), api.ErrLong},
		{"201 elements and one that is none", 7, with(201, 3, -1), api.ErrLong},
		{"7", 7, with(3, 2, 7), api.ErrArg},
		{"-1", 7, with(3, 0, -1), api.ErrArg},
		{"9 of 200", 9, with(200, 199, 9), api.ErrArg},
		{"65536", 65536, with(1, 0, 65536), api.ErrArg},
		{"the greatest int", 8, with(5, 2, math.MaxInt), api.ErrArg},
		{"the least int", 8, with(5, 2, math.MinInt), api.ErrArg},
	} {
		for _, order := range append(noOrders(), x.order) {
			want := api.ErrField
			if order == x.order {
				want = x.e
			}
			taps, e := code.Shortest(order, x.s)
			profile, f := code.Profile(order, x.s)
			if want != api.OK {
				expectError(t, "Shortest of "+x.name, e, want, taps)
				expectError(t, "Profile of "+x.name, f, want, profile)
			} else if e != api.OK || f != api.OK {
				t.Errorf("Shortest and Profile of %s: %d, %d", x.name, e, f)
			}
			for _, taps := range [][]int{nil, {1}, make([]int, 202), {-1}, {x.order}} {
				is, e := code.Makes(order, taps, x.s)
				if want != api.OK {
					expectError(t, "Makes of "+x.name, e, want, is)
				}
			}
		}
	}
	for _, x := range []struct {
		name    string
		taps, s []int
	}{
		{"more taps than elements", make([]int, 4), make([]int, 3)},
		{"a tap without elements", []int{1}, nil},
		{"1000 taps", make([]int, 1000), make([]int, 200)},
		{"the tap 7", []int{7}, make([]int, 3)},
		{"the tap -1", []int{1, -1}, make([]int, 3)},
		{"the last of as many taps as elements", []int{1, 2, 8}, make([]int, 3)},
		{"the greatest int", []int{math.MaxInt, 0}, make([]int, 3)},
		{"the least int", []int{math.MinInt, 0}, make([]int, 3)},
		{"a tap that is none, and too many", []int{-1, 0}, make([]int, 1)},
		{"a tap that is none, where the sequence is not made", []int{0, 7}, []int{0, 0, 1, 1}},
		{"a tap that is none, and an element", []int{7}, []int{7, 7}},
	} {
		is, e := code.Makes(7, x.taps, x.s)
		expectError(t, "Makes of "+x.name, e, api.ErrArg, is)
	}
}
