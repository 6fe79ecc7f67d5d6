package hall_test

import (
	"slices"
	"strconv"
	"strings"
	"testing"

	"dauber/cover"
	"dauber/hall"
)

// P10.1: a strip is that of chapter 5, with all its tickets.
func TestStrip(t *testing.T) {
	for _, seed := range []uint64{0, 1, 2, 31, 4294967295, 4294967296, 999999999999, 1000000000000} {
		n := hall.New()
		play(t, n, "strip a "+strconv.FormatUint(seed, 10), "ok")
		for i, ticket := range cover.Strip(seed) {
			want := []string{"ticket"}
			for _, row := range ticket {
				for _, number := range row {
					want = append(want, strconv.Itoa(number))
				}
			}
			play(t, n, "ticket a "+strconv.Itoa(i+1), strings.Join(want, " "))
		}
	}
}

// P10.1: several strips, also with the same seed; no strip twice, and none after a call.
func TestStripRefused(t *testing.T) {
	n := hall.New()
	play(t, n, "strip a 1", "ok", "strip a 1", "error 5", "strip a 2", "error 5", "strip b 1", "ok", "strip c 2", "ok")
	play(t, n, "ticket b 3", n.Do("ticket a 3"))
	if n.Do("ticket a 1") == n.Do("ticket c 1") {
		t.Error("different seeds make the same ticket")
	}
	play(t, n, "call 1", "ok", "strip d 1", "error 5", "strip a 1", "error 5")
	expectRefused(t, n, "error 4", "ticket d 1", "sell d 1 ann", "left d 1")
}

// P10.1: a ticket is sold once, before the first call.
func TestSell(t *testing.T) {
	n := after(t, "strip a 1")
	expectRefused(t, n, "error 4", "sell b 1 ann", "sell b 0 ann", "sell b 7 ann", "sell ann 1 a", "sell a1 1 ann")
	expectRefused(t, n, "error 1", "sell a 0 ann", "sell a 7 ann", "sell a 8 ann", "sell a 10 ann", "sell a 4294967297 ann", "sell a 1000000000000 ann")
	play(t, n, "sell a 1 ann", "ok", "sell a 6 ann", "ok", "sell a 3 bob", "ok")
	expectRefused(t, n, "error 5", "sell a 1 ann", "sell a 1 bob", "sell a 6 bob", "sell a 3 ann")
	do(t, n, "call 90")
	expectRefused(t, n, "error 5", "sell a 1 ann", "sell a 2 ann")
	expectRefused(t, n, "error 4", "sell b 2 ann", "sell b 0 ann")
	expectRefused(t, n, "error 1", "sell a 0 ann", "sell a 7 ann")
}

// P10.1: prizes are numbered from 1 on; there are at most 20.
func TestPrize(t *testing.T) {
	n := hall.New()
	expectRefused(t, n, "error 1", "prize 0 1", "prize 4 1", "prize 5 1", "prize 1 0", "prize 3 0", "prize 0 0", "prize 4 0", "prize 4294967297 1", "prize 1000000000000 1000000000000")
	for i := range 20 {
		play(t, n, "prize "+strconv.Itoa(i%3+1)+" "+[]string{"1", "1000000000000", "7"}[i%3], "ok "+strconv.Itoa(i+1))
	}
	expectSame(t, "Put", n.Put(), int64(7+7_000_000_000_000+6*7))
	expectRefused(t, n, "error 8", "prize 1 1", "prize 3 1000000000000")
	expectRefused(t, n, "error 1", "prize 0 1", "prize 4 1", "prize 1 0")
	do(t, n, "call 1")
	expectRefused(t, n, "error 5", "prize 1 1", "prize 3 1")
	expectRefused(t, n, "error 1", "prize 0 1", "prize 4 1", "prize 1 0")
}

// P10.1: strips, sales and prizes come before the first call, whether it was of call or of ball; an open draw does not matter, nor does the end of the night.
func TestBeforeTheFirstCall(t *testing.T) {
	lines := []string{"strip b 1", "sell a 2 ann", "prize 1 1"}
	drawn := slices.Concat([]string{"strip a 1"}, honestDraw(), []string{"ball"})
	expectRefused(t, after(t, drawn...), "error 5", lines...)
	expectRefused(t, after(t, "strip a 1", "call 1"), "error 5", lines...)
	expectRefused(t, after(t, "strip a 1", "call 1", "close"), "error 5", lines...)
	for _, last := range []string{"open 11 2 0", "close"} {
		play(t, after(t, "strip a 1", last), "strip b 1", "ok", "sell a 2 ann", "ok", "sell b 2 ann", "ok", "prize 1 1", "ok 1", "ticket b 1", "ticket "+oneTicket())
	}
}

// oneTicket returns the numbers of the first ticket from the seed 1.
func oneTicket() string {
	var list []string
	for _, row := range cover.Strip(1)[0] {
		for _, n := range row {
			list = append(list, strconv.Itoa(n))
		}
	}
	return strings.Join(list, " ")
}
