package cover_test

import (
	"fmt"
	"math"
	"math/rand/v2"
	"slices"
	"testing"

	"dauber/cover"
)

// expectRefutes checks Refutes of a valid problem.
func expectRefutes(t *testing.T, p cover.Problem, l []cover.Node, want bool) {
	t.Helper()
	if cover.Refutes(p, l) != want {
		t.Errorf("the problem %v, the list %v: Refutes is not %v", p, l, want)
	}
}

// P5.4: lists of nodes that are right refutations, and such as are none.
func TestListsOfNodes(t *testing.T) {
	example := cover.Problem{Items: 3, Options: [][]int{{0, 1}, {1, 2}}}
	twice := cover.Problem{Items: 3, Options: [][]int{{0}, {0, 1}, {}, {0}, {1}}}
	for _, x := range []struct {
		p    cover.Problem
		l    []cover.Node
		want bool
	}{
		{example, []cover.Node{{0, []int{1}}, {2, nil}}, true},
		{example, []cover.Node{{0, []int{1}}, {2, []int{}}}, true},
		{example, []cover.Node{{2, []int{1}}, {0, nil}}, true},
		{example, []cover.Node{{1, []int{1, 2}}, {2, nil}, {0, nil}}, true},
		{example, []cover.Node{{1, []int{2, 1}}, {2, nil}, {0, nil}}, false}, // not in the order of the options
		{example, []cover.Node{{1, []int{2, 1}}, {0, nil}, {2, nil}}, true},
		{example, nil, false},
		{example, []cover.Node{}, false},
		{example, []cover.Node{{0, nil}}, false},
		{example, []cover.Node{{0, []int{1}}}, false},
		{example, []cover.Node{{0, []int{0}}}, false},
		{example, []cover.Node{{0, []int{0}}, {2, nil}}, false},
		{example, []cover.Node{{0, []int{2}}, {2, nil}}, false},
		{example, []cover.Node{{0, []int{-1}}, {2, nil}}, false},
		{example, []cover.Node{{0, []int{math.MinInt}}, {2, nil}}, false},
		{example, []cover.Node{{0, []int{math.MaxInt}}, {2, nil}}, false},
		{example, []cover.Node{{0, []int{1, 1}}, {2, nil}}, false},
		{example, []cover.Node{{0, []int{1}}, {2, []int{2}}, {2, nil}}, false},
		{example, []cover.Node{{1, []int{1}}, {2, nil}}, false},
		{example, []cover.Node{{1, []int{1, 1}}, {2, nil}}, false}, // 2 is covered by the second option
		{example, []cover.Node{{0, []int{1}}, {0, nil}}, false},
		{example, []cover.Node{{0, []int{1}}, {1, nil}}, false},
		{example, []cover.Node{{0, []int{1}}, {3, nil}}, false},
		{example, []cover.Node{{0, []int{1}}, {-1, nil}}, false},
		{example, []cover.Node{{0, []int{1}}, {math.MaxInt, nil}}, false},
		{example, []cover.Node{{0, []int{1}}, {math.MinInt, nil}}, false},
		{example, []cover.Node{{3, nil}}, false},
		{example, []cover.Node{{-1, nil}}, false},
		{example, []cover.Node{{2, []int{2}}, {1, nil}, {0, nil}}, true}, // nobody asks for the node 1
		{example, []cover.Node{{2, []int{1}}, {0, nil}, {-5, []int{1, 2, 99}}}, true},
		{example, make([]cover.Node, 1<<20), false},
		{twice, []cover.Node{{2, nil}}, true},
		{twice, []cover.Node{{2, nil}, {2, nil}}, true},
		{twice, []cover.Node{{0, []int{1, 1, 1}}, {2, nil}}, true},
		{twice, []cover.Node{{0, []int{1, 1}}, {2, nil}}, false},
		{twice, []cover.Node{{0, []int{1, 1, 1, 1}}, {2, nil}}, false},
		{twice, []cover.Node{{1, []int{2, 1}}, {0, []int{2, 2}}, {2, nil}}, true},
		{twice, []cover.Node{{1, []int{2, 1}}, {0, []int{2, 2, 2}}, {2, nil}}, false},
		{twice, []cover.Node{{1, []int{1, 1}}, {0, []int{2, 2}}, {2, nil}}, false},
		{twice, []cover.Node{{1, []int{1, 2}}, {2, nil}, {0, []int{1, 1}}}, false}, // right but for the node 2, which names an earlier one
		{twice, []cover.Node{{1, []int{1, 2}}, {2, nil}, {0, []int{3, 3}}, {2, nil}}, true},
		{cover.Problem{}, []cover.Node{{}}, false},
		{cover.Problem{}, nil, false},
		{cover.Problem{Items: 1}, []cover.Node{{}}, true},
		{cover.Problem{Items: 1}, nil, false},
		{cover.Problem{Items: 1, Options: [][]int{{}, {}}}, []cover.Node{{}}, true},
		{cover.Problem{Items: 1, Options: [][]int{{0}}}, []cover.Node{{0, []int{1}}, {0, nil}}, false},
		{cover.Problem{Items: 1, Options: [][]int{{0}}}, []cover.Node{{}}, false},
		{cover.Problem{Items: 64}, []cover.Node{{63, nil}}, true},
		{cover.Problem{Items: 64}, []cover.Node{{64, nil}}, false},
		{cover.Problem{Items: 64, Options: [][]int{from(0, 63)}}, []cover.Node{{0, []int{1}}, {63, nil}}, true},
		{cover.Problem{Items: 64, Options: [][]int{from(0, 64)}}, []cover.Node{{0, []int{1}}, {63, nil}}, false},
		{cover.Problem{Items: 65}, []cover.Node{{}}, false},
		{cover.Problem{Items: -1}, []cover.Node{{}}, false},
		{cover.Problem{Items: 2, Options: [][]int{{0, 0}}}, []cover.Node{{1, nil}}, false},
		{cover.Problem{Items: 2, Options: make([][]int, 500)}, []cover.Node{{1, nil}}, true},
		{cover.Problem{Items: 2, Options: make([][]int, 501)}, []cover.Node{{1, nil}}, false},
	} {
		expectRefutes(t, x.p, x.l, x.want)
	}
}

// someNodes returns a refutation with items at random, as far as the problem has no cover; where it has one, there are wrong nodes.
func someNodes(r *rand.Rand, p cover.Problem) []cover.Node {
	var nodes []cover.Node
	var add func(covered []bool) int
	add = func(covered []bool) int {
		var open []int
		for i, is := range covered {
			if !is {
				open = append(open, i)
			}
		}
		n := len(nodes)
		if len(open) == 0 {
			nodes = append(nodes, cover.Node{Item: r.IntN(p.Items + 1)})
			return n
		}
		item := open[r.IntN(len(open))]
		nodes = append(nodes, cover.Node{Item: item})
		for _, option := range p.Options {
			if !slices.Contains(option, item) || slices.ContainsFunc(option, func(i int) bool { return covered[i] }) {
				continue
			}
			more := slices.Clone(covered)
			for _, i := range option {
				more[i] = true
			}
			next := add(more)
			nodes[n].Next = append(nodes[n].Next, next)
		}
		return n
	}
	add(make([]bool, p.Items))
	return nodes
}

// spoil changes a list of nodes in one place.
func spoil(r *rand.Rand, l []cover.Node, items int) []cover.Node {
	spoilt := slices.Clone(l)
	n := &spoilt[r.IntN(len(l))]
	n.Next = slices.Clone(n.Next)
	switch kind := r.IntN(5); {
	case kind == 0:
		n.Item = r.IntN(items+2) - 1
	case kind == 1:
		n.Next = append(n.Next, r.IntN(len(l)+2)-1)
	case kind == 2 && len(n.Next) > 0:
		n.Next = n.Next[:len(n.Next)-1]
	case kind == 3 && len(n.Next) > 0:
		n.Next[r.IntN(len(n.Next))] = r.IntN(len(l)+2) - 1
	case kind == 4:
		return spoilt[:len(l)-1]
	}
	return spoilt
}

// P5.4, P5.7: refutations that are right, and such as are wrong in one place, against the definition.
func TestSpoiltRefutations(t *testing.T) {
	r := newRandom()
	count := map[bool]int{}
	for range 6000 {
		p := someProblem(r)
		l := someNodes(r, p)
		without := len(coversOf(p)) == 0
		expectRefutes(t, p, l, without)
		if own, is := cover.Refute(p); is && r.IntN(2) == 0 {
			l = own
		}
		for range 5 {
			spoilt := spoil(r, l, p.Items)
			want := refutes(p, spoilt)
			if want && !without {
				t.Fatalf("the oracle refutes %v, which has a cover", p)
			}
			count[want]++
			expectRefutes(t, p, spoilt, want)
		}
	}
	if count[true] < 2000 || count[false] < 2000 {
		t.Errorf("right or wrong refutations are too few: %v", count)
	}
}

// P5.4: the same nodes among 64 items.
func TestRefutationsOf64Items(t *testing.T) {
	r := newRandom()
	right := 0
	for range 500 {
		small := someProblem(r)
		p := spread(r, small)
		l, is := cover.Refute(p)
		if is != (len(coversOf(small)) == 0) {
			t.Errorf("the problem %v: Refute is %v", p, is)
		}
		if !is {
			continue
		}
		right++
		expectRefutes(t, p, l, true)
		if !refutes(p, l) {
			t.Errorf("the problem %v: %v is no refutation", p, l)
		}
		spoilt := spoil(r, l, 64)
		expectRefutes(t, p, spoilt, refutes(p, spoilt))
	}
	if right < 50 {
		t.Errorf("only %d problems had no cover", right)
	}
}

// P1, P5.4: a short list with more paths than could be walked.
func TestRefutationsWithManyPaths(t *testing.T) {
	same := singles(40, 2)
	same.Items = 41
	different := cover.Problem{Items: 63}
	for i := range 31 {
		different.Options = append(different.Options, []int{i, 31 + i}, []int{i})
	}
	for _, x := range []struct {
		p    cover.Problem
		deep int
	}{{same, 40}, {different, 31}} {
		var l []cover.Node
		for i := range x.deep {
			l = append(l, cover.Node{Item: i, Next: []int{i + 1, i + 1}})
		}
		impossible := x.p.Items - 1
		expectRefutes(t, x.p, append(l, cover.Node{Item: impossible}), true)
		expectRefutes(t, x.p, append(l, cover.Node{Item: impossible, Next: []int{x.deep + 1}}, cover.Node{Item: impossible}), false)
		expectRefutes(t, x.p, append(l, cover.Node{Item: x.deep - 1}), false)
		expectRefutes(t, x.p, append(l, cover.Node{Item: x.deep / 2}), false)
		expectRefutes(t, x.p, l, false)
	}
}

// P5.4: boards that dominoes cannot cover are refuted; other boards never.
func TestRefutedBoards(t *testing.T) {
	for _, x := range []struct {
		p    cover.Problem
		want bool
	}{
		{dominoes(4, 4, 0, 15), true},
		{dominoes(4, 4, 0, 3), false},
		{dominoes(6, 6, 0, 35), true},
		{dominoes(6, 6, 0, 5), false},
		{dominoes(8, 8, 0, 63), true},
		{dominoes(5, 5), true},
		{dominoes(5, 5, 12), false},
		{dominoes(5, 5, 1), true},
		{dominoes(8, 8), false},
	} {
		l, is := cover.Refute(x.p)
		if is != x.want || cover.Refutes(x.p, l) != x.want {
			t.Errorf("a board of %d fields: Refute is %v, %d nodes", x.p.Items, is, len(l))
		}
		if !is {
			expectNothing(t, fmt.Sprint("a board of ", x.p.Items, " fields"), l)
		}
	}
}
