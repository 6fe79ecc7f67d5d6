package draw_test

import (
	"fmt"
	"math/rand/v2"
	"slices"
	"testing"

	"dauber/api"
	"dauber/draw"
)

// attack returns lines of the halls that are not honest, and of none: most of them are in by their own answers, but they reveal nothing that is right.
func attack(r *rand.Rand, c draw.Config, polys [][]int64, isHonest []bool) draw.Board {
	b := draw.Board{Deals: someDeals(r, c, polys)}
	for i, poly := range polys {
		hall := i + 1
		for other := 1; other <= c.Halls; other++ {
			if other == hall {
				continue
			}
			if !chance(r, 8) {
				b.Answers = append(b.Answers, answers(hall, other, valueAt(poly, other, c.Group.P)))
			}
			if chance(r, 3) {
				b.Complaints = append(b.Complaints, complain(hall, other))
			}
			if chance(r, 3) {
				b.Reveals = append(b.Reveals, opens(hall, other, r.Int64N(c.Group.P)), reveal(hall, somePoly(r, c)...))
			}
		}
	}
	for phase := range 4 {
		sprinkle(r, c, listOf(&b, phase), b)
	}
	for i, is := range isHonest {
		if is {
			b = withoutHall(b, i+1)
		}
	}
	for phase := range 4 {
		list := listOf(&b, phase)
		*list = (*list)[:min(len(*list), 100)]
	}
	return b
}

// someDraw is one with so many honest halls at least; the polynomials of the others are empty.
func someDraw(r *rand.Rand, c draw.Config, least int) (polys [][]int64, posted draw.Board, lost [][2]int) {
	isHonest := make([]bool, c.Halls)
	for _, i := range r.Perm(c.Halls)[:least+r.IntN(2)*r.IntN(c.Halls-least+1)] {
		isHonest[i] = true
	}
	polys = somePolys(r, c)
	posted = attack(r, c, polys, isHonest)
	for i := range polys {
		if !isHonest[i] {
			polys[i] = nil
		}
	}
	return polys, posted, someLost(r, c, oneOf(r, 1, 2, 10, 1000))
}

func runOf(t *testing.T, c draw.Config, polys [][]int64, posted draw.Board, lost [][2]int) draw.Board {
	t.Helper()
	b, e := draw.Run(c, polys, posted, lost)
	expectError(t, "Run", e, api.OK)
	return b
}

// sumOf returns the sum of a board; -1 if there is none.
func sumOf(t *testing.T, c draw.Config, b draw.Board) int64 {
	t.Helper()
	sum, e := draw.Sum(c, b)
	return orNone(t, "Sum", sum, e, -1)
}

// P9.5: whatever is revealed, after the same lines before that all sums are the same.
func TestBinding(t *testing.T) {
	r := newRandom()
	same := 0
	for range 200 {
		c := someConfig(r, 5)
		polys := somePolys(r, c)
		b := someBoard(r, c, polys, oneOf(r, 5, 20, 1000))
		sum := int64(-1)
		for range 20 {
			b.Reveals = someBoard(r, c, oneOf(r, polys, polys, somePolys(r, c)), 5).Reveals
			next := sumOf(t, c, b)
			if sum >= 0 && next >= 0 && next != sum {
				t.Fatalf("%v, %v: the sum %d, before %d", c, b, next, sum)
			}
			if sum >= 0 && next == sum {
				same++
			}
			sum = max(sum, next)
		}
	}
	if same < 500 {
		t.Errorf("%d boards had the same sum as others", same)
	}
}

// P9.5: in a small group all polynomials are revealed, and all numbers opened: no sum but one.
func TestBindingToOne(t *testing.T) {
	for _, bound := range []int{0, 1, 2} {
		c := draw.Config{Group: found(5), Halls: 3, Bound: bound, Balls: 5}
		b := draw.Board{Deals: lines(deal(2, commitments(c.Group, []int64{3, 4, 2}[:bound+1]...)...))}
		found := 0
		for number := range 125 {
			poly := []int64{int64(number % 5), int64(number / 5 % 5), int64(number / 25)}
			b.Reveals = lines(reveal(2, poly[:bound+1]...), opens(1, 2, poly[0]), opens(3, 2, poly[1]))
			if sum := sumOf(t, c, b); sum >= 0 {
				expectSame(t, fmt.Sprint(b), sum, 3)
				found++
			}
		}
		// With Bound 0 one of two numbers must be right; with Bound 1 both coefficients, or both numbers; with Bound 2 all coefficients.
		want := []int{45, 10, 1}
		expectSame(t, fmt.Sprint("boards with a sum, Bound ", bound), found, want[bound])
	}
}

// P9.5: more lines in Reveals never take a ball away, less never make another one.
func TestMoreReveals(t *testing.T) {
	r := newRandom()
	for range 400 {
		c := someConfig(r, 5)
		polys := somePolys(r, c)
		b := someBoard(r, c, polys, oneOf(r, 5, 20, 1000))
		before := sumOf(t, c, b)
		more := cloned(b)
		for range 5 {
			like := slices.Concat(b.Deals, b.Answers, b.Reveals, someBoard(r, c, polys, 10).Reveals, lines(opens(1, 2, 0), complain(1, 2)))
			at := r.IntN(len(more.Reveals) + 1)
			more.Reveals = slices.Insert(more.Reveals, at, oneOf(r, spoiled(r, c, oneOf(r, like...)), oneOf(r, like...)))
			after := sumOf(t, c, more)
			if before >= 0 && after != before {
				t.Fatalf("%v, %v: the sum %d, before %d", c, more, after, before)
			}
			before = after
		}
		for len(more.Reveals) > 0 {
			at := r.IntN(len(more.Reveals))
			more.Reveals = slices.Delete(more.Reveals, at, at+1)
			after := sumOf(t, c, more)
			if after >= 0 && after != before {
				t.Fatalf("%v, %v: the sum %d, before %d", c, more, after, before)
			}
			before = after
		}
	}
}

// P9.6, P9.7: with t + 1 honest halls there is a ball; all that are honest are in, and not guilty.
func TestHonestHalls(t *testing.T) {
	r := newRandom()
	liarsIn, guilty := 0, 0
	for range 1000 {
		c := someConfig(r, 8)
		polys, posted, lost := someDraw(r, c, c.Bound+1)
		b := runOf(t, c, polys, posted, lost)
		ball, e := draw.Ball(c, b)
		if e != api.OK || ball < 1 || ball > c.Balls {
			t.Fatalf("%v, %v: %d, %d", c, b, ball, e)
		}
		expectBlameless(t, c, polys, b)
		in, _ := draw.In(c, b)
		for _, hall := range in {
			if len(polys[hall-1]) == 0 {
				liarsIn++
			}
		}
		guilt, _ := draw.Guilty(c, b)
		guilty += len(guilt)
	}
	if liarsIn < 200 || guilty < 1000 {
		t.Errorf("%d halls that are not honest were in, there were %d guilts", liarsIn, guilty)
	}
}

// expectBlameless checks that all honest halls are in, and no guilt is of them.
func expectBlameless(t *testing.T, c draw.Config, polys [][]int64, b draw.Board) {
	t.Helper()
	in, _ := draw.In(c, b)
	guilt, _ := draw.Guilty(c, b)
	for i, poly := range polys {
		isGuilty := slices.ContainsFunc(guilt, func(g draw.Guilt) bool { return g.Hall == i+1 })
		if len(poly) > 0 && (isGuilty || !slices.Contains(in, i+1)) {
			t.Fatalf("%v, %v: hall %d is honest; in are %v, guilt is %v", c, b, i+1, in, guilt)
		}
	}
}

// P9.7: also if fewer than t + 1 halls are honest.
func TestFewHonestHalls(t *testing.T) {
	r := newRandom()
	for range 500 {
		c := someConfig(r, 8)
		polys, posted, lost := someDraw(r, c, 1)
		expectBlameless(t, c, polys, runOf(t, c, polys, posted, lost))
	}
}

// P9.6: t honest halls are not enough if another one answers them, and is silent then; t + 1 are.
func TestEnoughHonestHalls(t *testing.T) {
	r := newRandom()
	for _, p := range []int64{5, 11, 17, 19} {
		halls := int(min(16, p-1))
		for bound := range halls {
			c := draw.Config{Group: found(p), Halls: halls, Bound: bound, Balls: 90}
			for count := max(bound, 1); count <= min(bound+1, halls-1); count++ {
				polys := somePolys(r, c)
				liar := polys[halls-1]
				posted := draw.Board{Deals: lines(deal(halls, commitments(c.Group, liar...)...))}
				for hall := 1; hall <= count; hall++ {
					posted.Answers = append(posted.Answers, answers(halls, hall, valueAt(liar, hall, p)))
				}
				clear(polys[count:])
				total := liar[0]
				for _, poly := range polys[:count] {
					total += poly[0]
				}
				want := total % p
				if count == bound {
					want = -1
				}
				b := runOf(t, c, polys, posted, nil)
				expectSame(t, fmt.Sprint(c, ", honest halls: ", count), sumOf(t, c, b), want)
				expectSame(t, fmt.Sprint(c, ", the liar is in"), newOracle(c, b).in(halls), true)
			}
		}
	}
}

// P9.8: the sum changes as one constant coefficient does, whatever else is posted or lost.
func TestFair(t *testing.T) {
	r := newRandom()
	for range 150 {
		c := someConfig(r, 6)
		for c.Group.P > 19 {
			c = someConfig(r, 6)
		}
		polys, posted, lost := someDraw(r, c, c.Bound+1)
		hall := r.IntN(c.Halls)
		for len(polys[hall]) == 0 {
			hall = r.IntN(c.Halls)
		}
		polys[hall][0] = 0
		least := sumOf(t, c, runOf(t, c, polys, posted, lost))
		for n := range c.Group.P {
			polys[hall][0] = n
			b := runOf(t, c, polys, posted, lost)
			expectSame(t, fmt.Sprint(c, b), sumOf(t, c, b), (least+n)%c.Group.P)
		}
	}
}

// P9.9: what the board has up to the answers for t halls leaves each secret possible: of all polynomials for which it is the same, but for their commitments, just one has each secret.
func TestSecretTillThen(t *testing.T) {
	for _, c := range []draw.Config{{Group: found(11), Halls: 3, Bound: 1}, {Group: found(5), Halls: 4, Bound: 2}, {Group: found(3), Halls: 2, Bound: 1}, {Group: found(7), Halls: 3, Bound: 0}} {
		c.Balls = 90
		p := int(c.Group.P)
		all := 1
		for range c.Bound + 1 {
			all *= p
		}
		var lost [][2]int
		for other := range c.Bound {
			lost = append(lost, [2]int{1, other + 2})
		}
		secrets := map[string][]int64{}
		for number := range all {
			polys := slices.Repeat([][]int64{make([]int64, c.Bound+1)}, c.Halls)
			polys[0] = make([]int64, c.Bound+1)
			for i := range polys[0] {
				polys[0][i] = int64(number % p)
				number /= p
			}
			b := runOf(t, c, polys, draw.Board{}, lost)
			expectSame(t, "answers", len(b.Answers), c.Bound)
			known := fmt.Sprint(b.Deals[1:], b.Complaints, b.Answers)
			secrets[known] = append(secrets[known], polys[0][0])
		}
		expectSame(t, fmt.Sprint(c, ", different boards"), len(secrets), all/p)
		for known, list := range secrets {
			slices.Sort(list)
			if len(slices.Compact(list)) != p {
				t.Errorf("%v: after %s the secrets %v are possible", c, known, list)
			}
		}
	}
}
