package design

import (
	"slices"

	"dauber/api"
	"dauber/cover"
)

const (
	maxResolved = 64   // points, and blocks
	maxListed   = 1000 // classes with the same first block
)

// Resolve returns a resolution, its classes ordered by their first blocks; the error of Check; ErrLong if there are more than 64 points or blocks; or ErrNone if there is no resolution.
func Resolve(v int, blocks [][]int) ([][]int, api.Errno) {
	if _, e := Check(v, blocks); e != api.OK {
		return nil, e
	}
	if v > maxResolved || len(blocks) > maxResolved {
		return nil, api.ErrLong
	}
	var classes [][]int
	for first := range blocks {
		classes = append(classes, classesFrom(v, blocks, first)...)
	}
	return resolution(len(blocks), classes)
}

// classesFrom returns all classes with that first block. Package cover lists at most 1000, and there are fewer: if j blocks of a class are missing, at most L (j K - 1) / (K - 1) of those that fit have a given one of the j K points that are missing. For all parameters with at most 64 blocks the product of these numbers, j going from 1 to V / K - 1, is at most 720; only for 28 points and K 4 it is 1260, but of the 9 blocks that a point is in, 4 meet the first block, so that its first factor is 5 instead of 7.
func classesFrom(v int, blocks [][]int, first int) [][]int {
	options := fitting(blocks, first)
	clear(options[:first])
	classes, _ := cover.All(cover.Problem{Items: v, Options: options}, maxListed)
	return classes
}

// fitting returns the lists with the chosen one and those that have no number in common with it. The others are empty, so that all keep their places; no cover has them.
func fitting(lists [][]int, chosen int) [][]int {
	result := make([][]int, len(lists))
candidates:
	for i, list := range lists {
		for _, x := range list {
			if i != chosen && slices.Contains(lists[chosen], x) {
				continue candidates
			}
		}
		result[i] = list
	}
	return result
}

// resolution returns those of the classes, in their order, that have each block in just one; or ErrNone.
func resolution(blocks int, classes [][]int) ([][]int, api.Errno) {
	chosen, e := cover.First(cover.Problem{Items: blocks, Options: classes})
	if e == api.ErrLong {
		return resolutionOfMany(blocks, classes)
	}
	var result [][]int
	for _, c := range chosen {
		result = append(result, classes[c])
	}
	return result, e
}

// resolutionOfMany does the same for more classes than package cover takes: with each of those that have a certain block there are fewer that fit.
func resolutionOfMany(blocks int, classes [][]int) ([][]int, api.Errno) {
	for _, c := range rivals(blocks, classes) {
		fit := slices.DeleteFunc(fitting(classes, c), func(class []int) bool { return len(class) == 0 })
		if result, e := resolution(blocks, fit); e == api.OK {
			return result, api.OK
		}
	}
	return nil, api.ErrNone
}

// rivals returns the places of all classes that have the first block that several have. There is one, since there are more classes than blocks.
func rivals(blocks int, classes [][]int) []int {
	places := make([][]int, blocks)
	for c, class := range classes {
		for _, b := range class {
			places[b] = append(places[b], c)
		}
	}
	several := slices.IndexFunc(places, func(list []int) bool { return len(list) > 1 })
	return places[several]
}
