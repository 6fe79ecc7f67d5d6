package cover_test

import (
	"math/rand/v2"
	"slices"

	"dauber/cover"
)

// someProblem returns a valid problem that the oracle can go through.
func someProblem(r *rand.Rand) cover.Problem {
	p := cover.Problem{Items: r.IntN(9)}
	for range r.IntN(13) {
		p.Options = append(p.Options, r.Perm(p.Items)[:r.IntN(min(4, p.Items+1))])
	}
	return p
}

// spread returns the same problem among 64 items: each of the others is in one option for all of them, at the end.
func spread(r *rand.Rand, p cover.Problem) cover.Problem {
	place := r.Perm(64)
	q := cover.Problem{Items: 64}
	for _, option := range p.Options {
		items := []int{}
		for _, i := range option {
			items = append(items, place[i])
		}
		q.Options = append(q.Options, items)
	}
	q.Options = append(q.Options, place[p.Items:])
	return q
}

// mixed returns the same problem with the options in another order.
func mixed(r *rand.Rand, p cover.Problem) cover.Problem {
	options := slices.Clone(p.Options)
	r.Shuffle(len(options), func(i, j int) { options[i], options[j] = options[j], options[i] })
	return cover.Problem{Items: p.Items, Options: options}
}

// dominoes is the board of n by m without holes, to be covered by dominoes.
func dominoes(n, m int, holes ...int) cover.Problem {
	item := map[int]int{}
	for x := range n * m {
		if !slices.Contains(holes, x) {
			item[x] = len(item)
		}
	}
	p := cover.Problem{Items: len(item)}
	add := func(x, y int) {
		i, one := item[x]
		k, two := item[y]
		if one && two {
			p.Options = append(p.Options, []int{i, k})
		}
	}
	for x := range n * m {
		if (x+1)%m > 0 {
			add(x, x+1)
		}
		add(x, x+m)
	}
	return p
}

// triples is the problem of having each pair of v points in just one set of three.
func triples(v int) cover.Problem {
	pair := func(a, b int) int { return b*(b-1)/2 + a }
	p := cover.Problem{Items: v * (v - 1) / 2}
	for c := range v {
		for b := range c {
			for a := range b {
				p.Options = append(p.Options, []int{pair(a, b), pair(a, c), pair(b, c)})
			}
		}
	}
	return p
}

// langford is the problem of having each number k from 1 to n twice in a list, with k places between.
func langford(n int) cover.Problem {
	p := cover.Problem{Items: 3 * n}
	for k := 1; k <= n; k++ {
		for i := 0; i+k+1 < 2*n; i++ {
			p.Options = append(p.Options, []int{k - 1, n + i, n + i + k + 1})
		}
	}
	return p
}

// sudoku is the problem of filling the square of 4 by 4.
func sudoku() cover.Problem {
	p := cover.Problem{Items: 64}
	for r := range 4 {
		for c := range 4 {
			for n := range 4 {
				p.Options = append(p.Options, []int{4*r + c, 16 + 4*r + n, 32 + 4*c + n, 48 + 4*(r/2*2+c/2) + n})
			}
		}
	}
	return p
}

// pairs is the problem of dividing n items into pairs.
func pairs(n int) cover.Problem {
	p := cover.Problem{Items: n}
	for b := range n {
		for a := range b {
			p.Options = append(p.Options, []int{a, b})
		}
	}
	return p
}

// beside is the problem of covering the items of all of these.
func beside(problems ...cover.Problem) cover.Problem {
	var p cover.Problem
	for _, q := range problems {
		for _, option := range q.Options {
			shifted := slices.Clone(option)
			for i := range shifted {
				shifted[i] += p.Items
			}
			p.Options = append(p.Options, shifted)
		}
		p.Items += q.Items
	}
	return p
}

// singles is the problem with so many options for each of n items alone.
func singles(n, each int) cover.Problem {
	p := cover.Problem{Items: n}
	for range each {
		for i := range n {
			p.Options = append(p.Options, []int{i})
		}
	}
	return p
}

// someMatrix returns a random sum of permutations.
func someMatrix(r *rand.Rand, n, parts int, most int64) [][]int64 {
	m := make([][]int64, n)
	for i := range m {
		m[i] = make([]int64, n)
	}
	for range parts {
		weight := r.Int64N(most + 1)
		for i, j := range r.Perm(n) {
			m[i][j] += weight
		}
	}
	return m
}

// someTicket returns a ticket of numbers that the others do not have, with one to three of each column at random; or false if the try fails.
func someTicket(r *rand.Rand, others []cover.Ticket) (cover.Ticket, bool) {
	var t cover.Ticket
	taken := numbersOf(others)
	shares := repeated(1, 9)
	for range 6 {
		c := r.IntN(9)
		for shares[c] == 3 {
			c = r.IntN(9)
		}
		shares[c]++
	}
	for c, share := range shares {
		var numbers []int
		for n := 1; n <= 90; n++ {
			if min(n/10, 8) == c && !slices.Contains(taken, n) {
				numbers = append(numbers, n)
			}
		}
		if len(numbers) < share {
			return cover.Ticket{}, false
		}
		r.Shuffle(len(numbers), func(i, j int) { numbers[i], numbers[j] = numbers[j], numbers[i] })
		numbers = slices.Sorted(slices.Values(numbers[:share]))
		rows := slices.Sorted(slices.Values(r.Perm(3)[:share]))
		for i, n := range numbers {
			t[rows[i]][c] = n
		}
	}
	return t, isTicket(t)
}

// someTickets returns so many tickets without a common number.
func someTickets(r *rand.Rand, n int) []cover.Ticket {
	var tickets []cover.Ticket
	for tries := 0; len(tickets) < n; tries++ {
		if tries == 2000 {
			return someTickets(r, n)
		}
		t, is := someTicket(r, tickets)
		if is {
			tickets = append(tickets, t)
		}
	}
	return tickets
}
