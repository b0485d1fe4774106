package tests

import (
	"math"
	"testing"

	"loop.example/g00741/impl"
)

// farNumbers: no field of a Serial, no bit and no time may be one of these.
var farNumbers = []int64{
	1 << 32, 1<<32 + 1, -1 << 32, math.MinInt32, -1000000000,
	math.MaxInt64, math.MaxInt64 - 1, math.MinInt64, math.MinInt64 + 1,
}

var wrongBits = append([]int64{-1, -2, 2, 3, 128, 255, 256, 257}, farNumbers...)

// wrongTimes: below and past the clock; with some of these a time and Beat would go round.
var wrongTimes = append([]int64{-1, -2, -32, -33, impl.MaxClock + 1, impl.MaxClock + 2, math.MaxInt64 - 31, math.MaxInt64 - 32}, farNumbers...)

func idle(data int64) impl.Serial { return impl.Serial{Data: data} }

func waiting(data, left int64) impl.Serial {
	return impl.Serial{Data: data, Busy: true, Left: left}
}

func leading(data, left, nextAt int64) impl.Serial {
	return impl.Serial{Data: data, Busy: true, Lead: true, Left: left, NextAt: nextAt}
}

func asking(data, left int64) impl.Serial {
	return impl.Serial{Data: data, Busy: true, Lead: true, Left: left, Wait: true}
}

// rightSerials: every kind of state that the document names, with every Left, at the edges of the other fields.
func rightSerials() []impl.Serial {
	var list []impl.Serial
	for _, data := range edgeBytes {
		list = append(list, idle(data))
		for left := int64(1); left <= 8; left++ {
			list = append(list, waiting(data, left), asking(data, left))
			for _, nextAt := range []int64{0, 1, 2, 31, 32, 33, 500, impl.MaxClock - 33, impl.MaxClock - 32, impl.MaxClock - 1, impl.MaxClock} {
				list = append(list, leading(data, left, nextAt))
			}
		}
	}
	return list
}

// wrongSerials: one thing alone is wrong in each of them.
func wrongSerials() []impl.Serial {
	var list []impl.Serial
	rights := []impl.Serial{idle(5), waiting(5, 1), waiting(200, 8), leading(5, 1, 7), leading(200, 8, 0), leading(5, 3, impl.MaxClock), asking(5, 1), asking(200, 8)}
	for _, right := range rights {
		with := func(put func(*impl.Serial, int64), near ...int64) {
			for _, n := range append(near, farNumbers...) {
				wrong := right
				put(&wrong, n)
				list = append(list, wrong)
			}
		}
		with(func(s *impl.Serial, n int64) { s.Data = n }, -1, 256, -256, 511)
		with(func(s *impl.Serial, n int64) { s.Left = n }, -1, 9, -8, 16, 257)
		with(func(s *impl.Serial, n int64) { s.NextAt = n }, -1, impl.MaxClock+1, -impl.MaxClock)
	}
	for _, data := range edgeBytes {
		for left := int64(1); left <= 8; left++ {
			list = append(list, impl.Serial{Data: data, Left: left})
			for _, nextAt := range []int64{1, 32, 100, impl.MaxClock} {
				list = append(list,
					impl.Serial{Data: data, NextAt: nextAt},
					impl.Serial{Data: data, Busy: true, Left: left, NextAt: nextAt},
					impl.Serial{Data: data, Busy: true, Lead: true, Left: left, NextAt: nextAt, Wait: true})
			}
			list = append(list, impl.Serial{Data: data, Busy: true, Left: left, Wait: true})
		}
		list = append(list,
			impl.Serial{Data: data, Lead: true},
			impl.Serial{Data: data, Wait: true},
			impl.Serial{Data: data, Lead: true, Wait: true},
			impl.Serial{Data: data, Busy: true},
			impl.Serial{Data: data, Busy: true, Lead: true},
			impl.Serial{Data: data, Busy: true, Lead: true, NextAt: 40},
			impl.Serial{Data: data, Busy: true, Lead: true, Wait: true},
			impl.Serial{Data: data, Lead: true, NextAt: 40},
			impl.Serial{Data: data, Lead: true, Left: 8, NextAt: 40})
	}
	return list
}

func wantStart(t *testing.T, s impl.Serial, lead bool, now int64, want impl.Serial) {
	t.Helper()
	if got := impl.SerialStart(s, lead, now); got != want {
		t.Fatalf("SerialStart of %+v, %v, %d: got %+v, want %+v", s, lead, now, got, want)
	}
}

func wantSends(t *testing.T, s impl.Serial, upto int64, want impl.Serial, wantAt, wantBit int64) {
	t.Helper()
	got, at, bit := impl.SerialSends(s, upto)
	if got != want || at != wantAt || bit != wantBit {
		t.Fatalf("SerialSends of %+v, %d: got %+v %d %d, want %+v %d %d", s, upto, got, at, bit, want, wantAt, wantBit)
	}
}

func wantBeat(t *testing.T, s impl.Serial, bit int64, want impl.Serial, wantAnswer int64, wantThrough bool) {
	t.Helper()
	got, answer, through := impl.SerialBeat(s, bit)
	if got != want || answer != wantAnswer || through != wantThrough {
		t.Fatalf("SerialBeat of %+v, %d: got %+v %d %v, want %+v %d %v", s, bit, got, answer, through, want, wantAnswer, wantThrough)
	}
}

func wantAnswered(t *testing.T, s impl.Serial, bit, at int64, want impl.Serial, wantThrough bool) {
	t.Helper()
	got, through := impl.SerialAnswer(s, bit, at)
	if got != want || through != wantThrough {
		t.Fatalf("SerialAnswer of %+v, %d, %d: got %+v %v, want %+v %v", s, bit, at, got, through, want, wantThrough)
	}
}

func topBit(data int64) int64 { return data / 128 }

func shiftedIn(data, bit int64) int64 { return data*2%256 + bit }

func TestBeatLength(t *testing.T) {
	if impl.Beat != 32 {
		t.Fatalf("Beat %d", impl.Beat)
	}
}

func TestSerialOkOfRightAndWrong(t *testing.T) {
	if !impl.SerialOk(impl.Serial{}) {
		t.Fatal("the zero Serial is right")
	}
	for data := int64(0); data <= 255; data++ {
		if !impl.SerialOk(idle(data)) || !impl.SerialOk(waiting(data, 4)) {
			t.Fatalf("Data of %d is right", data)
		}
	}
	for _, s := range rightSerials() {
		if !impl.SerialOk(s) {
			t.Fatalf("SerialOk of %+v: want true", s)
		}
	}
	for _, s := range wrongSerials() {
		if impl.SerialOk(s) {
			t.Fatalf("SerialOk of %+v: want false", s)
		}
	}
}

// TestSerialOkOfEveryMix: all flags with all Lefts and NextAts, against the document's words.
func TestSerialOkOfEveryMix(t *testing.T) {
	flags := []bool{false, true}
	for _, busy := range flags {
		for _, lead := range flags {
			for _, wait := range flags {
				for left := int64(-2); left <= 10; left++ {
					for _, nextAt := range []int64{-1, 0, 1, 32, impl.MaxClock, impl.MaxClock + 1} {
						s := impl.Serial{Data: 9, Busy: busy, Lead: lead, Left: left, NextAt: nextAt, Wait: wait}
						want := false
						switch {
						case !busy:
							want = s == impl.Serial{Data: 9}
						case left < 1 || left > 8:
						case lead && !wait:
							want = nextAt >= 0 && nextAt <= impl.MaxClock
						default:
							want = nextAt == 0 && lead == wait
						}
						if impl.SerialOk(s) != want {
							t.Fatalf("SerialOk of %+v: want %v", s, want)
						}
					}
				}
			}
		}
	}
}

func TestStartsFromEveryState(t *testing.T) {
	for _, s := range rightSerials() {
		for _, now := range []int64{0, 1, 7, 32, 1000, impl.MaxClock - 33, impl.MaxClock - 32} {
			wantStart(t, s, true, now, leading(s.Data, 8, now+32))
			wantStart(t, s, false, now, waiting(s.Data, 8))
		}
	}
}

func TestStartsAtTheLastClock(t *testing.T) {
	for _, s := range rightSerials() {
		wantStart(t, s, true, 999999968, leading(s.Data, 8, 1000000000))
		for now := int64(999999969); now <= 1000000000; now++ {
			wantStart(t, s, true, now, impl.Serial{})
			// Who does not lead has no NextAt that could be too late.
			wantStart(t, s, false, now, waiting(s.Data, 8))
		}
		for _, now := range wrongTimes {
			wantStart(t, s, true, now, impl.Serial{})
			wantStart(t, s, false, now, impl.Serial{})
		}
	}
}

func TestSendsWhenItIsTime(t *testing.T) {
	for data := int64(0); data <= 255; data++ {
		for left := int64(1); left <= 8; left++ {
			s := leading(data, left, 39)
			wantSends(t, s, 38, s, -1, 0)
			wantSends(t, s, 39, asking(data, left), 39, topBit(data))
			wantSends(t, s, 40, asking(data, left), 39, topBit(data))
		}
	}
	for _, data := range edgeBytes {
		for _, nextAt := range []int64{1, 2, 32, 500, impl.MaxClock - 1, impl.MaxClock} {
			s := leading(data, 8, nextAt)
			for _, upto := range []int64{nextAt - 1, 0, -1, -nextAt, math.MinInt64} {
				wantSends(t, s, upto, s, -1, 0)
			}
			for _, upto := range []int64{nextAt, nextAt + 1, impl.MaxClock + 1, math.MaxInt64} {
				wantSends(t, s, upto, asking(data, 8), nextAt, topBit(data))
			}
		}
	}
}

func TestSendsNothingWithoutNextAt(t *testing.T) {
	for _, s := range rightSerials() {
		if s.NextAt != 0 {
			continue
		}
		for _, upto := range []int64{math.MinInt64, -1, 0, 1, 32, impl.MaxClock, math.MaxInt64} {
			wantSends(t, s, upto, s, -1, 0)
		}
	}
}

func TestBeatsWhereOneWaitsForThem(t *testing.T) {
	for data := int64(0); data <= 255; data++ {
		for bit := int64(0); bit <= 1; bit++ {
			after := shiftedIn(data, bit)
			wantBeat(t, waiting(data, 1), bit, idle(after), topBit(data), true)
			for left := int64(2); left <= 8; left++ {
				wantBeat(t, waiting(data, left), bit, waiting(after, left-1), topBit(data), false)
			}
		}
	}
	wantBeat(t, waiting(0, 8), 1, waiting(1, 7), 0, false)
	wantBeat(t, waiting(127, 8), 0, waiting(254, 7), 0, false)
	wantBeat(t, waiting(128, 8), 0, waiting(0, 7), 1, false)
	wantBeat(t, waiting(255, 2), 1, waiting(255, 1), 1, false)
	wantBeat(t, waiting(255, 1), 0, idle(254), 1, true)
}

func TestBeatsWhereNobodyWaitsForThem(t *testing.T) {
	for _, s := range rightSerials() {
		if s.Busy && !s.Lead {
			continue
		}
		wantBeat(t, s, 0, s, 1, false)
		wantBeat(t, s, 1, s, 1, false)
	}
}

func TestAnswersWhereOneWaitsForThem(t *testing.T) {
	for data := int64(0); data <= 255; data++ {
		for bit := int64(0); bit <= 1; bit++ {
			after := shiftedIn(data, bit)
			for _, at := range []int64{0, 1, 55, impl.MaxClock - 33, impl.MaxClock - 32} {
				wantAnswered(t, asking(data, 1), bit, at, idle(after), true)
				for left := int64(2); left <= 8; left++ {
					wantAnswered(t, asking(data, left), bit, at, leading(after, left-1, at+32), false)
				}
			}
		}
	}
	wantAnswered(t, asking(0, 8), 1, 0, leading(1, 7, 32), false)
	wantAnswered(t, asking(127, 8), 0, 4, leading(254, 7, 36), false)
	wantAnswered(t, asking(128, 2), 1, 4, leading(1, 1, 36), false)
	wantAnswered(t, asking(255, 1), 0, 4, idle(254), true)
	wantAnswered(t, asking(255, 2), 1, 999999968, leading(255, 1, 1000000000), false)
}

func TestAnswersWhereNobodyWaitsForThem(t *testing.T) {
	for _, s := range rightSerials() {
		if s.Wait {
			continue
		}
		for _, at := range []int64{0, 1, 55, impl.MaxClock - 33, impl.MaxClock - 32} {
			wantAnswered(t, s, 0, at, s, false)
			wantAnswered(t, s, 1, at, s, false)
		}
	}
}

func TestAnswersAtWrongTimes(t *testing.T) {
	late := []int64{999999969, 999999970, impl.MaxClock - 1, impl.MaxClock}
	for _, s := range rightSerials() {
		for _, at := range append(late, wrongTimes...) {
			wantAnswered(t, s, 0, at, impl.Serial{}, false)
			wantAnswered(t, s, 1, at, impl.Serial{}, false)
		}
	}
}

func TestNoBitAnswersZero(t *testing.T) {
	for _, s := range rightSerials() {
		for _, bit := range wrongBits {
			wantBeat(t, s, bit, impl.Serial{}, 0, false)
			wantAnswered(t, s, bit, 0, impl.Serial{}, false)
			wantAnswered(t, s, bit, 55, impl.Serial{}, false)
			wantAnswered(t, s, bit, -1, impl.Serial{}, false)
		}
	}
}

func TestWrongSerialsAnswerZero(t *testing.T) {
	zero := impl.Serial{}
	for _, s := range wrongSerials() {
		for _, n := range append([]int64{0, 1, 7, 40, impl.MaxClock}, wrongTimes...) {
			wantStart(t, s, true, n, zero)
			wantStart(t, s, false, n, zero)
			wantSends(t, s, n, zero, -1, 0)
			wantAnswered(t, s, 0, n, zero, false)
			wantAnswered(t, s, 1, n, zero, false)
		}
		for _, bit := range append([]int64{0, 1}, wrongBits...) {
			wantBeat(t, s, bit, zero, 0, false)
		}
	}
}

// trade runs one that leads against one that waits, each answer coming as many cycles late, and tells how many beats there were.
func trade(t *testing.T, a, b impl.Serial, late int64) (impl.Serial, impl.Serial, int) {
	t.Helper()
	for beats := 1; ; beats++ {
		left, next := a.Left, a.NextAt
		if left != b.Left || !impl.SerialOk(a) || !impl.SerialOk(b) {
			t.Fatalf("ahead of beat %d: %+v and %+v", beats, a, b)
		}
		sent, at, bit := impl.SerialSends(a, next)
		if at != next || bit != topBit(a.Data) || sent != asking(a.Data, left) {
			t.Fatalf("beat %d of %+v: got %+v %d %d", beats, a, sent, at, bit)
		}
		heard, answer, throughB := impl.SerialBeat(b, bit)
		if answer != topBit(b.Data) || throughB != (left == 1) {
			t.Fatalf("beat %d at %+v: got %+v %d %v", beats, b, heard, answer, throughB)
		}
		done, throughA := impl.SerialAnswer(sent, answer, at+late)
		if throughA != throughB {
			t.Fatalf("beat %d: one is through, the other is not: %+v and %+v", beats, done, heard)
		}
		a, b = done, heard
		if throughA {
			return a, b, beats
		}
		if a.NextAt != at+late+32 {
			t.Fatalf("beat %d: the next one at %d, want %d", beats, a.NextAt, at+late+32)
		}
	}
}

func TestBytesAreChangedInEightBeats(t *testing.T) {
	for first := int64(0); first <= 255; first++ {
		for second := int64(0); second <= 255; second++ {
			a := impl.SerialStart(idle(first), true, second)
			b := impl.SerialStart(idle(second), false, first)
			gotA, gotB, beats := trade(t, a, b, 16)
			if beats != 8 || gotA != idle(second) || gotB != idle(first) {
				t.Fatalf("%d against %d: got %+v and %+v in %d beats", first, second, gotA, gotB, beats)
			}
		}
	}
}

func TestBytesAreChangedAtAnyPace(t *testing.T) {
	for _, late := range []int64{0, 1, 16, 17, 1000, 100000} {
		for _, now := range []int64{0, 1, 31, 32, 999} {
			for _, first := range edgeBytes {
				for _, second := range edgeBytes {
					// What a start finds under way is given up.
					a := impl.SerialStart(asking(first, 3), true, now)
					b := impl.SerialStart(leading(second, 5, 77), false, now)
					gotA, gotB, beats := trade(t, a, b, late)
					if beats != 8 || gotA != idle(second) || gotB != idle(first) {
						t.Fatalf("%d against %d, %d late: got %+v and %+v in %d beats", first, second, late, gotA, gotB, beats)
					}
				}
			}
		}
	}
}

// TestNobodyAnswersOneThatLeads: whoever leads against one that does not wait hears nothing but ones.
func TestNobodyAnswersOneThatLeads(t *testing.T) {
	for data := int64(0); data <= 255; data++ {
		for _, other := range []impl.Serial{idle(0), leading(0, 8, 32), asking(0, 8)} {
			a := impl.SerialStart(idle(data), true, 0)
			for beat := 1; beat <= 8; beat++ {
				sent, at, bit := impl.SerialSends(a, impl.MaxClock)
				wantBeat(t, other, bit, other, 1, false)
				done, through := impl.SerialAnswer(sent, 1, at)
				if through != (beat == 8) {
					t.Fatalf("beat %d of %d: through %v", beat, data, through)
				}
				a = done
			}
			if a != idle(255) {
				t.Fatalf("%d against one that does not wait: got %+v", data, a)
			}
		}
	}
}
