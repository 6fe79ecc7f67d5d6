package cover

import (
	"slices"

	"dauber/api"
)

// Node is an item of a refutation, and the numbers of the nodes for the options that have it.
type Node struct {
	Item int
	Next []int
}

// Refute returns a refutation of a problem without a cover.
func Refute(p Problem) ([]Node, bool) {
	s, e := newSearch(p)
	if e != api.OK {
		return nil, false
	}
	r := refuter{search: s, known: map[set]int{}}
	if _, is := r.refute(); !is {
		return nil, false
	}
	// A node is made after those that it names, and must come before them.
	slices.Reverse(r.nodes)
	for _, node := range r.nodes {
		for i := range node.Next {
			node.Next[i] = len(r.nodes) - 1 - node.Next[i]
		}
	}
	return r.nodes, true
}

type refuter struct {
	*search
	nodes []Node
	known map[set]int // the nodes of sets of open items
}

// refute returns the number of a node that checks, or false if there is a cover of the open items.
func (r *refuter) refute() (int, bool) {
	if r.open == 0 {
		return 0, false
	}
	if n, is := r.known[r.open]; is {
		return n, true
	}
	node := Node{Item: r.narrowest()}
	for range r.choices(node.Item) {
		next, is := r.refute()
		if !is {
			return 0, false
		}
		node.Next = append(node.Next, next)
	}
	r.nodes = append(r.nodes, node)
	r.known[r.open] = len(r.nodes) - 1
	return len(r.nodes) - 1, true
}

// Refutes reports whether l is a right refutation of p.
func Refutes(p Problem, l []Node) bool {
	sets, e := p.sets()
	if e != api.OK || len(l) == 0 {
		return false
	}
	c := checker{sets: sets, columns: make([][]int, p.Items), nodes: l, checked: map[visit]bool{}}
	for o, items := range sets {
		for i := range items.numbers() {
			c.columns[i] = append(c.columns[i], o)
		}
	}
	c.relevant = c.relevance()
	return c.checks(0, 0)
}

type checker struct {
	sets     []set
	columns  [][]int // of each item, the options that have it
	nodes    []Node
	relevant []set // the items on which it depends whether a node checks
	checked  map[visit]bool
}

// visit is a node, and the relevant items that are covered.
type visit struct {
	node    int
	covered set
}

// relevance returns of each node the items of the options that it and the nodes after it look at. With them, a node that many paths reach is checked once, not as often as there are paths.
func (c *checker) relevance() []set {
	relevant := make([]set, len(c.nodes))
	for n := len(c.nodes) - 1; n >= 0; n-- {
		node := c.nodes[n]
		if c.isItem(node.Item) {
			relevant[n] = only(node.Item)
			for _, o := range c.columns[node.Item] {
				relevant[n] |= c.sets[o]
			}
		}
		for _, next := range node.Next {
			if c.isAfter(next, n) {
				relevant[n] |= relevant[next]
			}
		}
	}
	return relevant
}

func (c *checker) isItem(i int) bool {
	return i >= 0 && i < len(c.columns)
}

// isAfter reports whether next is the number of a node that comes after n.
func (c *checker) isAfter(next, n int) bool {
	return next > n && next < len(c.nodes)
}

func (c *checker) checks(n int, covered set) bool {
	now := visit{n, covered & c.relevant[n]}
	if c.checked[now] {
		return true
	}
	item, rest := c.nodes[n].Item, c.nodes[n].Next
	if !c.isItem(item) || covered.has(item) {
		return false
	}
	for _, o := range c.columns[item] {
		if c.sets[o]&covered != 0 {
			continue
		}
		if len(rest) == 0 || !c.isAfter(rest[0], n) || !c.checks(rest[0], covered|c.sets[o]) {
			return false
		}
		rest = rest[1:]
	}
	if len(rest) > 0 {
		return false
	}
	if len(c.checked) < maxKnown {
		c.checked[now] = true
	}
	return true
}
