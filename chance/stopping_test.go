package chance_test

import (
	"fmt"
	"math/big"
	"math/rand/v2"
	"slices"
	"testing"

	"dauber/api"
	"dauber/chance"
	"dauber/tally"
)

// someRewards returns n rewards, many of which are equal.
func someRewards(r *rand.Rand, n int) []*big.Rat {
	f := make([]*big.Rat, n)
	for i := range f {
		f[i] = fraction(r.Int64N(13)-6, 1+r.Int64N(3))
	}
	return f
}

// P7.3: the values of small chains, against all sets of states at which one can stop.
func TestValues(t *testing.T) {
	r := newRandom()
	for _, s := range smallSamples() {
		c := toChain(s.p)
		for range 10 {
			f := someRewards(r, len(c))
			got, e := chance.Value(s.p, fromBigs(f))
			expectRats(t, fmt.Sprint("Value of ", s.name, ", ", f), got, e, c.value(f))
		}
	}
}

// P7.3: the value of larger chains is the only value proof.
func TestLargeValues(t *testing.T) {
	r := newRandom()
	for _, s := range samples() {
		for range 5 {
			f := someRewards(r, len(s.p))
			got, e := chance.Value(s.p, fromBigs(f))
			if e != api.OK || len(got) != len(f) || !toChain(s.p).isValue(f, toBigs(got)) {
				t.Errorf("Value of %s, %v: %v, %d", s.name, f, got, e)
			}
		}
	}
}

// P7.3: known values: rewards that are negative, equal, greatest at an end or at another state.
func TestKnownValues(t *testing.T) {
	for _, x := range []struct{ f, v string }{
		{"0 0 3 0", "2 1 3 0"},
		{"0 0 0 3", "1 2 0 3"},
		{"5 0 3 0", "5 5/2 3 0"},
		{"0 5 0 3", "5/2 5 0 3"},
		{"9 8 3 0", "9 8 3 0"},
		{"9 4 3 0", "9 9/2 3 0"},
		{"9 9/2 3 0", "9 9/2 3 0"},
		{"-1 -1 -3 -3", "-1 -1 -3 -3"},
		{"-1 -2 -3 -3", "-1 -2 -3 -3"},
		{"-1 -3 -3 -3", "-1 -2 -3 -3"},
		{"-9 -9 -3 -3", "-3 -3 -3 -3"},
		{"-9 -9 -3 -6", "-4 -5 -3 -6"},
		{"1 1 1 1", "1 1 1 1"},
		{"0 0 0 0", "0 0 0 0"},
		{"-1 -1 -1 -1", "-1 -1 -1 -1"},
		{"-1 -1 1/3 0", "2/9 1/9 1/3 0"},
	} {
		got, e := chance.Value(walk(), rats(x.f))
		expectRats(t, "Value of "+x.f, got, e, toBigs(rats(x.v)))
		expectValue(t, "the example", walk(), rats(x.f), got, true)
	}
	for n := 1; n <= 16; n++ {
		f := fromBigs(someRewards(newRandom(), n))
		got, e := chance.Value(allEnds(n), f)
		expectRats(t, "Value of ends", got, e, toBigs(f))
	}
	// Where one stops the better the later, all states but the ends are improved one after the other.
	p := ruin(16, fraction(1, 2))
	f := make([]tally.Rat, 16)
	f[15] = rat("15")
	got, e := chance.Value(p, f)
	for i := range got {
		expectRat(t, "Value of a fair game", got[i], e, fraction(int64(i), 1))
	}
}

// P7.2: value proofs: lists that are or nearly are the value, at each single state.
func TestNearValues(t *testing.T) {
	r := newRandom()
	for _, s := range slices.Concat(samples(), smallSamples()[:20]) {
		for range 3 {
			f := someRewards(r, len(s.p))
			v, _ := chance.Value(s.p, fromBigs(f))
			expectValue(t, s.name, s.p, fromBigs(f), v, true)
			for i := range v {
				by := little()[r.IntN(len(little()))]
				expectValue(t, s.name, s.p, fromBigs(f), moved(v, i, by), false)
				expectValue(t, s.name, s.p, fromBigs(f), moved(v, i, by.Neg(by)), false)
			}
		}
	}
}

// P7.2: lists that are value proofs of other rewards, or no value proofs.
func TestSomeValueProofs(t *testing.T) {
	r := newRandom()
	proofs := 0
	for _, s := range smallSamples() {
		c := toChain(s.p)
		for range 30 {
			f := someRewards(r, len(c))
			v := c.value(f)
			for range 2 {
				i := r.IntN(len(c))
				v[i] = sumOf(v[i], fraction(r.Int64N(3)-1, 1))
				f[i] = v[r.IntN(len(c))]
			}
			is := c.isValue(f, v)
			if is {
				proofs++
			}
			expectValue(t, s.name, s.p, fromBigs(f), fromBigs(v), is)
		}
	}
	if proofs < 100 {
		t.Errorf("only %d value proofs", proofs)
	}
}

// P7.2: known value proofs, and what is none: less than a reward, less than what follows, more than both, not the reward at an end.
func TestKnownValueProofs(t *testing.T) {
	for _, x := range []struct {
		f, v string
		want bool
	}{
		{"0 0 3 0", "2 1 3 0", true},
		{"0 0 3 0", "2 1 3 1/1000000", false},
		{"0 0 3 0", "2 1 3 -1", false},
		{"0 0 3 0", "5/2 1 4 0", false},
		{"0 0 3 0", "0 0 3 0", false},
		{"0 0 3 0", "3 3/2 3 0", false},
		{"0 0 3 0", "9/4 3/2 3 0", false},
		{"5 0 3 0", "5 5/2 3 0", true},
		{"5 0 3 0", "2 1 3 0", false},
		{"5 0 3 0", "4 2 3 0", false},
		{"5 0 3 0", "6 3 3 0", false},
		{"5 0 3 0", "5 3 3 0", false},
		{"5 0 3 0", "5 0 3 0", false},
		{"2 1 3 0", "2 1 3 0", true},
		{"-1 -1 -3 -3", "-1 -1 -3 -3", true},
		{"-1 -1 -3 -3", "-3 -3 -3 -3", false},
		{"-9 -9 -3 -3", "-3 -3 -3 -3", true},
		{"-9 -9 -3 -3", "-9 -9 -3 -3", false},
		{"0 0 0 0", "0 0 0 0", true},
		{"0 0 0 0", "1 1/2 0 0", false},
		{"0 0 0 0", "1 1 1 1", false},
	} {
		expectValue(t, "the example", walk(), rats(x.f), rats(x.v), x.want)
	}
}

// P7.3: rewards of 40 digits are taken, of 41 they are not; the number of rewards comes first.
func TestRewardErrors(t *testing.T) {
	whole := func(n *big.Int) *big.Rat { return quotient(n, big.NewInt(1)) }
	for _, x := range []struct {
		name   string
		reward *big.Rat
		want   api.Errno
	}{
		{"the greatest number of 40 digits", whole(power(40, -1)), api.OK},
		{"its negative", new(big.Rat).Neg(whole(power(40, -1))), api.OK},
		{"the least number of 41 digits", whole(power(40, 0)), api.ErrArg},
		{"its negative", new(big.Rat).Neg(whole(power(40, 0))), api.ErrArg},
		{"numerator and denominator with 40 digits", quotient(power(40, -1), power(40, -2)), api.OK},
		{"its negative", new(big.Rat).Neg(quotient(power(40, -2), power(40, -1))), api.OK},
		{"a denominator with 41 digits", quotient(big.NewInt(1), power(40, 0)), api.ErrArg},
		{"both with 41 digits", quotient(power(40, 0), power(40, 1)), api.ErrArg},
		{"a negative numerator, a denominator with 41 digits", quotient(big.NewInt(-1), power(40, 1)), api.ErrArg},
		{"the greatest number", toBig(huge()), api.ErrArg},
	} {
		for i := range 4 {
			f := make([]*big.Rat, 4)
			for j := range f {
				f[j] = new(big.Rat)
			}
			f[i] = x.reward
			got, e := chance.Value(walk(), fromBigs(f))
			if x.want != api.OK {
				expectError(t, "Value of "+x.name, e, x.want, got)
				// The digits of rewards are no matter of proofs.
				v := toChain(walk()).value(f)
				if slices.ContainsFunc(v, func(r *big.Rat) bool { return r.Num().BitLen() > api.MaxBits }) {
					continue
				}
				expectValue(t, x.name, walk(), fromBigs(f), fromBigs(v), true)
				continue
			}
			expectRats(t, "Value of "+x.name, got, e, toChain(walk()).value(f))
		}
	}
	long := whole(power(40, 0))
	for _, f := range [][]tally.Rat{nil, rats("1 2 3"), rats("1 2 3 4 5"), make([]tally.Rat, 1<<20), {fromBig(long)}, fromBigs([]*big.Rat{long, long, long, long, long})} {
		got, e := chance.Value(walk(), f)
		expectError(t, fmt.Sprint("Value of ", len(f), " rewards"), e, api.ErrShape, got)
	}
}

// P7.3: a chain of 16 states with the longest numbers and rewards. It is best to stop only at the first state and at the end.
func TestLongValue(t *testing.T) {
	t.Parallel()
	c := longChain(16)
	p := c.rows()
	e := coprime(16, power(40, 0))
	f := make([]*big.Rat, 16)
	for i := range f {
		f[i] = quotient(power(39, int64(i)), e[i])
	}
	f[0] = quotient(e[0], power(39, 1))
	f[15] = quotient(e[14], e[15])
	v, errno := chance.Value(p, fromBigs(f))
	if errno != api.OK || len(v) != 16 || !c.isValue(f, toBigs(v)) {
		t.Fatalf("Value of a long chain: %d, %v", errno, shortened(v))
	}
	if digits := len(v[1].Den().String()); digits < 4200 {
		t.Errorf("only %d digits", digits)
	}
	expectValue(t, "a long chain", p, fromBigs(f), v, true)
	expectValue(t, "a long chain", p, fromBigs(f), moved(v, 3, little()[4]), false)
}
