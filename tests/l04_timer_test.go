package tests

import (
	"math"
	"testing"

	"loop.example/g00741/impl"
)

// rateRows: the document's Rates, the Mode being the place.
var rateRows = []int64{0, 0, 0, 0, 16, 32, 64, 128}

// wrongSpans: just beside what TimerAfter counts at once, and far from it; with some of these a Count would go round.
var wrongSpans = []int64{
	-1, -2, -16, -100000, -100001, 100001, 100002, 1000000000, 1000000001,
	1 << 32, 1<<32 + 1, -1 << 32, math.MaxInt32, math.MinInt32,
	math.MaxInt64, math.MaxInt64 - 1, math.MinInt64, math.MinInt64 + 1,
}

// countedOut: a timer after n cycles, cycle by cycle, as the document's words go.
func countedOut(x impl.Timer, n int64) (impl.Timer, int64) {
	rate := rateRows[x.Mode]
	came := int64(0)
	for range n {
		x.Count++
		if rate == 0 || x.Count%rate != 0 {
			continue
		}
		if x.Value++; x.Value == 256 {
			x.Value = x.Start
			came++
		}
	}
	return x, came
}

func wantTimer(t *testing.T, x impl.Timer, n int64, want impl.Timer, wantCame int64) {
	t.Helper()
	got, came := impl.TimerAfter(x, n)
	if got != want || came != wantCame {
		t.Fatalf("TimerAfter of %+v, %d: got %+v %d, want %+v %d", x, n, got, came, want, wantCame)
	}
}

func wantCountedOut(t *testing.T, x impl.Timer, n int64) {
	t.Helper()
	want, came := countedOut(x, n)
	wantTimer(t, x, n, want, came)
}

// wantInParts: after first, and then after second, is after both.
func wantInParts(t *testing.T, x impl.Timer, first, second int64) {
	t.Helper()
	middle, cameFirst := impl.TimerAfter(x, first)
	if !impl.TimerOk(middle) {
		t.Fatalf("TimerAfter of %+v, %d is not right: %+v", x, first, middle)
	}
	end, cameSecond := impl.TimerAfter(middle, second)
	wantTimer(t, x, first+second, end, cameFirst+cameSecond)
}

// wrongTimers: a right timer with one field past an end of its range, or far from it.
func wrongTimers() []impl.Timer {
	far := []int64{1 << 32, -1 << 32, math.MaxInt64, math.MaxInt64 - 1, math.MinInt64, math.MinInt64 + 1}
	right := impl.Timer{Count: 48, Value: 255, Start: 7, Mode: 4}
	var list []impl.Timer
	with := func(put func(*impl.Timer, int64), near ...int64) {
		for _, n := range append(near, far...) {
			wrong := right
			put(&wrong, n)
			list = append(list, wrong)
		}
	}
	with(func(x *impl.Timer, n int64) { x.Count = n }, -1, impl.MaxClock+1)
	with(func(x *impl.Timer, n int64) { x.Value = n }, -1, 256)
	with(func(x *impl.Timer, n int64) { x.Start = n }, -1, 256)
	with(func(x *impl.Timer, n int64) { x.Mode = n }, -1, 8, -4, 12)
	return list
}

func TestTimerLimits(t *testing.T) {
	if impl.MaxClock != 1000000000 || impl.MaxSpan != 100000 {
		t.Fatalf("MaxClock %d, MaxSpan %d", impl.MaxClock, impl.MaxSpan)
	}
}

func TestRatesOfModes(t *testing.T) {
	for mode := int64(-1000); mode <= 1000; mode++ {
		want := int64(0)
		if mode >= 0 && mode <= 7 {
			want = rateRows[mode]
		}
		if got := impl.RateOf(mode); got != want {
			t.Fatalf("RateOf of %d: got %d, want %d", mode, got, want)
		}
	}
	for _, mode := range wrongBytes {
		if got := impl.RateOf(mode); got != 0 {
			t.Fatalf("RateOf of %d: got %d, want 0", mode, got)
		}
	}
	// All of these would pass for a Mode that runs if only some of their bits were kept.
	for low := int64(4); low <= 7; low++ {
		for shift := 3; shift < 64; shift++ {
			for _, mode := range []int64{low + 1<<shift, low - 1<<shift} {
				if got := impl.RateOf(mode); got != 0 {
					t.Fatalf("RateOf of %d: got %d, want 0", mode, got)
				}
			}
		}
	}
}

func TestTimerOkAtTheEdges(t *testing.T) {
	for _, count := range []int64{0, 1, impl.MaxClock - 1, impl.MaxClock} {
		for _, value := range edgeBytes {
			for _, start := range edgeBytes {
				for mode := int64(0); mode <= 7; mode++ {
					if x := (impl.Timer{Count: count, Value: value, Start: start, Mode: mode}); !impl.TimerOk(x) {
						t.Fatalf("TimerOk of %+v: want true", x)
					}
				}
			}
		}
	}
	for _, wrong := range wrongTimers() {
		if impl.TimerOk(wrong) {
			t.Fatalf("TimerOk of %+v: want false", wrong)
		}
	}
}

func TestCycleByCycle(t *testing.T) {
	for mode := int64(0); mode <= 7; mode++ {
		for _, start := range []int64{0, 253, 255} {
			x := impl.Timer{Count: 5, Value: 252, Start: start, Mode: mode}
			for range 1500 {
				wantCountedOut(t, x, 1)
				x, _ = impl.TimerAfter(x, 1)
			}
		}
	}
}

func TestManyCyclesAtOnce(t *testing.T) {
	for mode := int64(0); mode <= 7; mode++ {
		for _, value := range edgeBytes {
			for _, start := range edgeBytes {
				for _, count := range []int64{0, 1, 15, 16, 127, 128, 129, 999} {
					x := impl.Timer{Count: count, Value: value, Start: start, Mode: mode}
					for _, n := range []int64{0, 1, 2, 15, 16, 17, 127, 128, 129, 300, 5000} {
						wantCountedOut(t, x, n)
					}
				}
			}
		}
	}
}

func TestComesRoundToStart(t *testing.T) {
	x := impl.Timer{Value: 254, Start: 250, Mode: 4}
	wantTimer(t, x, 31, impl.Timer{Count: 31, Value: 255, Start: 250, Mode: 4}, 0)
	wantTimer(t, x, 32, impl.Timer{Count: 32, Value: 250, Start: 250, Mode: 4}, 1)
	wantTimer(t, x, 16*7, impl.Timer{Count: 112, Value: 255, Start: 250, Mode: 4}, 1)
	wantTimer(t, x, 16*8, impl.Timer{Count: 128, Value: 250, Start: 250, Mode: 4}, 2)
	wantTimer(t, x, 16*14, impl.Timer{Count: 224, Value: 250, Start: 250, Mode: 4}, 3)
	// From 255 on 255 each tick comes round; from 0 on only each 256th does.
	wantTimer(t, impl.Timer{Value: 255, Start: 255, Mode: 7}, 128*9, impl.Timer{Count: 1152, Value: 255, Start: 255, Mode: 7}, 9)
	wantTimer(t, impl.Timer{Mode: 4}, 16*255, impl.Timer{Count: 4080, Value: 255, Mode: 4}, 0)
	wantTimer(t, impl.Timer{Mode: 4}, 16*256, impl.Timer{Count: 4096, Mode: 4}, 1)
	wantTimer(t, impl.Timer{Mode: 4}, 16*513, impl.Timer{Count: 8208, Value: 1, Mode: 4}, 2)
	// A Start above Value is not come to before Value is through.
	wantTimer(t, impl.Timer{Value: 3, Start: 200, Mode: 4}, 16*252, impl.Timer{Count: 4032, Value: 255, Start: 200, Mode: 4}, 0)
	wantTimer(t, impl.Timer{Value: 3, Start: 200, Mode: 4}, 16*253, impl.Timer{Count: 4048, Value: 200, Start: 200, Mode: 4}, 1)
}

func TestMultiplesAtTheEnds(t *testing.T) {
	for mode := int64(4); mode <= 7; mode++ {
		rate := rateRows[mode]
		for _, base := range []int64{0, rate, 3 * rate, 1000 * rate} {
			// The Count is a multiple ahead of the first cycle: that one is over.
			x := impl.Timer{Count: base, Value: 9, Start: 1, Mode: mode}
			wantTimer(t, x, 0, x, 0)
			wantTimer(t, x, rate-1, impl.Timer{Count: base + rate - 1, Value: 9, Start: 1, Mode: mode}, 0)
			// It comes to be one at the last cycle: that one counts.
			wantTimer(t, x, rate, impl.Timer{Count: base + rate, Value: 10, Start: 1, Mode: mode}, 0)
			x.Count = base + rate - 1
			wantTimer(t, x, 1, impl.Timer{Count: base + rate, Value: 10, Start: 1, Mode: mode}, 0)
			x.Value = 255
			wantTimer(t, x, 1, impl.Timer{Count: base + rate, Value: 1, Start: 1, Mode: mode}, 1)
			wantTimer(t, x, rate, impl.Timer{Count: base + 2*rate - 1, Value: 1, Start: 1, Mode: mode}, 1)
			wantTimer(t, x, rate+1, impl.Timer{Count: base + 2*rate, Value: 2, Start: 1, Mode: mode}, 1)
		}
	}
}

func TestNoCyclesChangeNothing(t *testing.T) {
	for _, count := range []int64{0, 16, 127, 128, impl.MaxClock - 1, impl.MaxClock} {
		for mode := int64(0); mode <= 7; mode++ {
			for _, value := range edgeBytes {
				x := impl.Timer{Count: count, Value: value, Start: 255 - value, Mode: mode}
				wantTimer(t, x, 0, x, 0)
			}
		}
	}
}

func TestLongestSpan(t *testing.T) {
	for mode := int64(0); mode <= 7; mode++ {
		for _, start := range []int64{0, 1, 254, 255} {
			wantCountedOut(t, impl.Timer{Count: 7, Value: 255, Start: start, Mode: mode}, impl.MaxSpan)
			wantCountedOut(t, impl.Timer{Count: impl.MaxClock - impl.MaxSpan, Start: start, Mode: mode}, impl.MaxSpan)
		}
	}
	wantTimer(t, impl.Timer{Value: 255, Start: 255, Mode: 4}, 100000, impl.Timer{Count: 100000, Value: 255, Start: 255, Mode: 4}, 6250)
}

func TestTheLastClock(t *testing.T) {
	for mode := int64(0); mode <= 7; mode++ {
		for _, n := range []int64{1, 2, 16, 512, 99999, impl.MaxSpan} {
			x := impl.Timer{Count: impl.MaxClock - n, Value: 255, Start: 3, Mode: mode}
			wantCountedOut(t, x, n)
			x.Count++
			wantTimer(t, x, n, impl.Timer{}, 0)
			x.Count = impl.MaxClock
			wantTimer(t, x, n, impl.Timer{}, 0)
		}
	}
	// MaxClock is a multiple of each Rate, so the last cycle of all counts.
	wantTimer(t, impl.Timer{Count: impl.MaxClock - 1, Value: 255, Start: 4, Mode: 7},
		1, impl.Timer{Count: impl.MaxClock, Value: 4, Start: 4, Mode: 7}, 1)
}

func TestTimerInParts(t *testing.T) {
	for mode := int64(0); mode <= 7; mode++ {
		for _, start := range []int64{0, 1, 128, 250, 255} {
			x := impl.Timer{Count: 11, Value: 250, Start: start, Mode: mode}
			for whole := int64(0); whole <= 400; whole += 7 {
				for first := int64(0); first <= whole; first++ {
					wantInParts(t, x, first, whole-first)
				}
			}
		}
		for _, first := range []int64{0, 1, 16, 49999, 50000, 99984, 99999, impl.MaxSpan} {
			wantInParts(t, impl.Timer{Count: 5, Value: 200, Start: 190, Mode: mode}, first, impl.MaxSpan-first)
			wantInParts(t, impl.Timer{Count: impl.MaxClock - impl.MaxSpan, Value: 255, Start: 251, Mode: mode}, first, impl.MaxSpan-first)
		}
	}
}

func TestWrongTimersAnswerZero(t *testing.T) {
	for _, wrong := range wrongTimers() {
		for _, n := range append([]int64{0, 1, 16, 1000, impl.MaxSpan}, wrongSpans...) {
			wantTimer(t, wrong, n, impl.Timer{}, 0)
		}
	}
}

func TestWrongSpansAnswerZero(t *testing.T) {
	for _, n := range wrongSpans {
		for mode := int64(0); mode <= 7; mode++ {
			for _, count := range []int64{0, 1, 100000, 500000000, impl.MaxClock} {
				wantTimer(t, impl.Timer{Count: count, Value: 255, Start: 255, Mode: mode}, n, impl.Timer{}, 0)
			}
		}
	}
}
