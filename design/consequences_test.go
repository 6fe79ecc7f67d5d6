package design_test

import (
	"fmt"
	"slices"
	"testing"

	"dauber/api"
	"dauber/design"
	"dauber/field"
)

// manyDesigns returns the samples, designs that the package makes, and random ones.
func manyDesigns() []sample {
	r := newRandom()
	all := samples()
	keep := func(name string, v int, blocks [][]int) {
		p, _ := parametersOf(v, blocks)
		all = append(all, sample{name: name, v: v, blocks: blocks, params: p})
	}
	for _, v := range []int{7, 9, 13, 15, 19, 21, 25, 31} {
		blocks, _ := design.Triples(v)
		keep(fmt.Sprint(v, " points of Triples"), v, blocks)
	}
	for _, order := range []int{2, 3, 4, 5, 7, 8} {
		lines, _ := design.Plane(order)
		keep(fmt.Sprint("the plane of order ", order), order*order+order+1, lines)
	}
	for _, x := range []struct{ v, l int }{{6, 2}, {6, 4}, {9, 1}, {9, 3}, {9, 5}, {10, 2}, {12, 2}, {13, 2}, {15, 1}, {15, 2}, {21, 1}} {
		blocks := someTriples(r, x.v, x.l)
		keep(fmt.Sprint("the triples ", blocks), x.v, blocks)
	}
	return all
}

// P6.8: the parameters of designs have the verdict Open.
func TestDesignsAreOpen(t *testing.T) {
	for _, s := range manyDesigns() {
		p, e := design.Check(s.v, s.blocks)
		verdict, f := design.Judge(p.V, p.K, p.L)
		if e != api.OK || f != api.OK || p != s.params || verdict.Code != design.Open {
			t.Errorf("%s: %v, %d; the verdict is %v, %d", s.name, p, e, verdict, f)
		}
	}
}

// P6.8: the dual of a symmetric design is one with the same parameters, and its dual is the design; that of another design is none.
func TestDuals(t *testing.T) {
	symmetric := 0
	for _, s := range manyDesigns() {
		dual, e := design.Dual(s.v, s.blocks)
		if e != api.OK || len(dual) != s.v {
			t.Errorf("Dual of %s: %v, %d", s.name, dual, e)
		}
		if s.params.V != s.params.B {
			// Two of its points would be together in as many blocks as two blocks have points in common, which is not the same number for all.
			p, e := design.Check(s.params.B, dual)
			if e == api.OK {
				t.Errorf("the dual of %s is a design: %v", s.name, p)
			}
			continue
		}
		symmetric++
		p, e := design.Check(s.v, dual)
		if p != s.params || e != api.OK {
			t.Errorf("the dual of %s: %v, %d; want %v", s.name, p, e, s.params)
		}
		again, e := design.Dual(s.v, dual)
		expectRows(t, "the dual of the dual of "+s.name, again, e, s.blocks)
	}
	if symmetric < 10 {
		t.Errorf("only %d symmetric designs", symmetric)
	}
}

// P6.8: the complement of a design is a design if blocks leave at least two points, and its complement is the design.
func TestComplements(t *testing.T) {
	for _, s := range manyDesigns() {
		others, e := design.Complement(s.v, s.blocks)
		if e != api.OK {
			t.Errorf("Complement of %s: %d", s.name, e)
		}
		p, e := design.Check(s.v, others)
		if s.params.K+2 > s.v {
			expectError(t, "the complement of "+s.name, e, api.ErrDesign, p)
			continue
		}
		x := s.params
		if want := params(x.V, x.B, x.B-x.R, x.V-x.K, x.B-2*x.R+x.L); p != want || e != api.OK {
			t.Errorf("the complement of %s: %v, %d; want %v", s.name, p, e, want)
		}
		again, e := design.Complement(s.v, others)
		expectRows(t, "the complement of the complement of "+s.name, again, e, s.blocks)
	}
}

// P6.9: a design has at least as many blocks as points, and its matrix has the rank V over each field of a prime order that divides neither R - L nor R + L (V - 1).
func TestRanks(t *testing.T) {
	ranks := 0
	for _, s := range manyDesigns() {
		p, _ := design.Check(s.v, s.blocks)
		if p.B < p.V {
			t.Errorf("%s has fewer blocks than points: %v", s.name, p)
		}
		if p.V > api.MaxRows || p.B > api.MaxRows {
			continue
		}
		m := make([][]int, p.V)
		for a := range m {
			m[a] = make([]int, p.B)
			for b, block := range s.blocks {
				if slices.Contains(block, a) {
					m[a][b] = 1
				}
			}
		}
		for _, prime := range []int{2, 3, 5, 7, 11, 13, 101, 65521} {
			if (p.R-p.L)%prime == 0 || (p.R+p.L*(p.V-1))%prime == 0 {
				continue
			}
			f, _ := field.New(prime)
			rows, e := f.Echelon(m)
			if e != api.OK || len(rows) != p.V {
				t.Errorf("%s: the rank over the field of %d elements is %d, %d", s.name, prime, len(rows), e)
			}
			ranks++
		}
	}
	if ranks < 100 {
		t.Errorf("only %d ranks", ranks)
	}
}
