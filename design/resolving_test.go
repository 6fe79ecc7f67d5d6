package design_test

import (
	"fmt"
	"slices"
	"testing"

	"dauber/api"
	"dauber/design"
)

// expectResolved checks that a design has a resolution, or that it has none.
func expectResolved(t *testing.T, what string, v int, blocks [][]int, want bool) {
	t.Helper()
	classes, e := design.Resolve(v, blocks)
	switch {
	case !want:
		expectError(t, "Resolve of "+what, e, api.ErrNone, classes)
	case e != api.OK || !isResolution(v, blocks, classes):
		t.Errorf("Resolve of %s: %v, %d is no resolution", what, classes, e)
	}
}

// P6.1: designs of which it is known whether they have a resolution.
func TestKnownResolutions(t *testing.T) {
	r := newRandom()
	for _, s := range samples() {
		expectResolved(t, s.name, s.v, s.blocks, s.resolvable)
		for range 5 {
			blocks := mixed(r, s.v, s.blocks)
			expectResolved(t, fmt.Sprint(s.name, ", mixed: ", blocks), s.v, blocks, s.resolvable)
		}
	}
}

// P6.1: random designs of triples, of which the oracle tries all lists of classes.
func TestRandomResolutions(t *testing.T) {
	r := newRandom()
	resolved := map[bool]int{}
	for _, x := range []struct{ v, l, times int }{{6, 2, 5}, {6, 4, 20}, {9, 1, 10}, {9, 2, 60}, {9, 3, 60}, {9, 4, 30}, {9, 5, 8}, {12, 2, 60}, {15, 1, 60}} {
		for range x.times {
			blocks := someTriples(r, x.v, x.l)
			want := hasResolution(x.v, blocks, from(0, len(blocks)), map[string]bool{})
			resolved[want]++
			expectResolved(t, fmt.Sprint("the triples ", blocks), x.v, blocks, want)
		}
	}
	if resolved[true] < 15 || resolved[false] < 100 {
		t.Errorf("with and without a resolution: %v", resolved)
	}
}

// P6.1: several designs with resolutions, mixed with each other, have one.
func TestMixedResolutions(t *testing.T) {
	r := newRandom()
	for _, x := range []struct{ order, times int }{{3, 2}, {3, 3}, {3, 5}, {4, 2}, {4, 3}, {5, 2}} {
		for range 20 {
			var blocks [][]int
			v := x.order * x.order
			for range x.times {
				blocks = append(blocks, mixed(r, v, affinePlane(x.order))...)
			}
			r.Shuffle(len(blocks), func(i, k int) { blocks[i], blocks[k] = blocks[k], blocks[i] })
			expectResolved(t, fmt.Sprint("planes: ", blocks), v, blocks, true)
		}
	}
}

// P6.1: the designs that Triples and Plane make.
func TestResolutionsOfMade(t *testing.T) {
	for _, v := range []int{7, 9, 13, 15, 19} {
		blocks, _ := design.Triples(v)
		if len(blocks) <= 64 {
			want := hasResolution(v, blocks, from(0, len(blocks)), map[string]bool{})
			expectResolved(t, fmt.Sprint(v, " points of Triples"), v, blocks, want)
		}
	}
	for _, order := range []int{2, 3, 4, 5, 7} {
		blocks, _ := design.Plane(order)
		expectResolved(t, fmt.Sprint("the plane of order ", order), order*order+order+1, blocks, false)
	}
}

// P6.1: the order of the classes, and of a resolution that is the only one.
func TestOnlyResolution(t *testing.T) {
	classes, e := design.Resolve(4, [][]int{{2, 3}, {0, 2}, {0, 3}, {1, 2}, {1, 3}, {0, 1}})
	expectRows(t, "Resolve", classes, e, [][]int{{0, 5}, {1, 4}, {2, 3}})
	nine := [][]int{{0, 1, 2}, {0, 3, 6}, {3, 4, 5}, {1, 4, 7}, {6, 7, 8}, {2, 5, 8}, {0, 4, 8}, {1, 5, 6}, {2, 4, 6}, {2, 3, 7}, {1, 3, 8}, {0, 5, 7}}
	classes, e = design.Resolve(9, nine)
	expectRows(t, "Resolve", classes, e, [][]int{{0, 2, 4}, {1, 3, 5}, {6, 7, 9}, {8, 10, 11}})
}

// Resolve takes classes from lists of at most 1000 that have a certain block: for all designs that it takes there are fewer.
func TestFewClassesOfBlock(t *testing.T) {
	var most []int
	for v := 3; v <= 64; v++ {
		for k := 2; k < v; k++ {
			for l := 1; v%k == 0 && l*v*(v-1) <= 64*k*(k-1); l++ {
				if j, _ := design.Judge(v, k, l); j.Code == design.Divides {
					continue
				}
				product := 1
				for missing := 1; missing < v/k; missing++ {
					fit := l * (missing*k - 1) / (k - 1)
					if l == 1 && missing == v/k-1 {
						// Just K blocks of a point meet a block that does not have it, each in one point.
						fit = (v-1)/(k-1) - k
					}
					product *= fit
				}
				most = append(most, product)
			}
		}
	}
	if slices.Max(most) != 900 {
		t.Errorf("a block may be in %d classes", slices.Max(most))
	}
}
