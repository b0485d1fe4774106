package tests

import (
	"slices"
	"testing"

	"loop.example/g00741/impl"
)

func pairCopy(p impl.Pair) impl.Pair {
	var c impl.Pair
	for _, m := range p.Machines {
		c.Machines = append(c.Machines, machineClone(m))
	}
	for _, inbox := range p.Inboxes {
		c.Inboxes = append(c.Inboxes, slices.Clone(inbox))
	}
	for _, trace := range p.Traces {
		c.Traces = append(c.Traces, slices.Clone(trace))
	}
	return c
}

func likePairs(a, b impl.Pair) bool {
	return slices.EqualFunc(a.Machines, b.Machines, likeMachines) &&
		slices.EqualFunc(a.Inboxes, b.Inboxes, slices.Equal[[]impl.Msg]) &&
		slices.EqualFunc(a.Traces, b.Traces, slices.Equal[[]impl.Ev])
}

// pairWith: no Evs yet.
func pairWith(a, b impl.Machine, inboxA, inboxB []impl.Msg) impl.Pair {
	return pairCopy(impl.Pair{Machines: []impl.Machine{a, b}, Inboxes: [][]impl.Msg{inboxA, inboxB}, Traces: [][]impl.Ev{nil, nil}})
}

// turnedRound: the first one is the second one.
func turnedRound(p impl.Pair) impl.Pair {
	p = pairCopy(p)
	slices.Reverse(p.Machines)
	slices.Reverse(p.Inboxes)
	slices.Reverse(p.Traces)
	return p
}

// pairStepByWords: as it is and false where there is no step, or no room.
func pairStepByWords(p impl.Pair) (impl.Pair, bool) {
	side := 0
	if p.Machines[1].Clock < p.Machines[0].Clock {
		side = 1
	}
	s, is := stepByWords(p.Machines[side], p.Inboxes[side])
	if !is {
		return p, false
	}
	next := pairCopy(p)
	next.Machines[side] = s.Machine
	next.Inboxes[side] = next.Inboxes[side][s.Used:]
	for _, out := range s.Out {
		next.Inboxes[1-side] = sortedWith(next.Inboxes[1-side], out)
	}
	next.Traces[side] = append(next.Traces[side], s.Evs...)
	if len(next.Traces[side]) > 3000 || len(next.Inboxes[1-side]) > 200 {
		return p, false
	}
	return next, true
}

func pairToByWords(p impl.Pair, until int64) impl.Pair {
	for is := true; is && min(p.Machines[0].Clock, p.Machines[1].Clock) < until; {
		p, is = pairStepByWords(p)
	}
	return p
}

func wantPairOk(t *testing.T, p impl.Pair, want bool) {
	t.Helper()
	before := pairCopy(p)
	if impl.PairOk(p) != want {
		t.Fatalf("PairOk of %+v: want %v", p, want)
	}
	if !likePairs(p, before) {
		t.Fatalf("PairOk of %+v changes it", before)
	}
}

func wantPairStep(t *testing.T, p, want impl.Pair, wantIs bool) impl.Pair {
	t.Helper()
	before := pairCopy(p)
	got, is := impl.PairStep(p)
	if !likePairs(got, want) || is != wantIs {
		t.Fatalf("PairStep of %+v:\n got %+v %v\nwant %+v %v", p, got, is, want, wantIs)
	}
	if !likePairs(p, before) {
		t.Fatalf("PairStep of %+v: it is changed to %+v", before, p)
	}
	return got
}

func wantPairTo(t *testing.T, p impl.Pair, until int64, want impl.Pair) impl.Pair {
	t.Helper()
	before := pairCopy(p)
	got := impl.PairTo(p, until)
	if !likePairs(got, want) {
		t.Fatalf("PairTo of %+v, %d:\n got %+v\nwant %+v", p, until, got, want)
	}
	if !likePairs(p, before) {
		t.Fatalf("PairTo of %+v, %d: it is changed to %+v", before, until, p)
	}
	return got
}

// wantStays: there is no step of it.
func wantStays(t *testing.T, p impl.Pair) {
	t.Helper()
	wantPairStep(t, p, pairCopy(p), false)
}

func wantNewPair(t *testing.T, a, b []int64, keysA, keysB []impl.Msg) impl.Pair {
	t.Helper()
	p, is := impl.NewPair(a, b, keysA, keysB)
	if !is || !impl.PairOk(p) {
		t.Fatalf("NewPair of %v, %v, %v, %v: %+v %v", a, b, keysA, keysB, p, is)
	}
	return p
}

func romOf(t *testing.T, code ...int64) []int64 {
	t.Helper()
	rom, is := impl.RomOf(code)
	if !is {
		t.Fatalf("%v makes no rom", code)
	}
	return rom
}

func TestPairNumbers(t *testing.T) {
	if impl.MaxTrace != 3000 {
		t.Fatalf("MaxTrace %d", impl.MaxTrace)
	}
}

func TestNewPairsByHand(t *testing.T) {
	newMachine := func(rom []int64) impl.Machine {
		return impl.Machine{Rom: rom, Ram: make([]int64, 64), Sp: 192}
	}
	lists := [][]impl.Msg{nil, {}, {keys(1, 0)}, {keys(3, 5), keys(3, 4), keys(lastArrival, 255)}, slices.Repeat([]impl.Msg{keys(7, 1)}, 200)}
	for _, sizeA := range []int{2, 3, 64, 127, 128} {
		for _, sizeB := range []int{2, 60, 128} {
			for _, keysA := range lists {
				for _, keysB := range lists {
					a, b := romFor(sizeA), romFor(sizeB)
					want := pairWith(newMachine(a), newMachine(b), keysA, keysB)
					if p := wantNewPair(t, a, b, keysA, keysB); !likePairs(p, want) {
						t.Fatalf("NewPair of %v, %v, %v, %v: got %+v", a, b, keysA, keysB, p)
					}
				}
			}
		}
	}
}

func wantNoPair(t *testing.T, a, b []int64, keysA, keysB []impl.Msg) {
	t.Helper()
	if p, is := impl.NewPair(a, b, keysA, keysB); is || !likePairs(p, impl.Pair{}) {
		t.Fatalf("NewPair of %v, %v, %v, %v: got %+v %v, want the zero Pair and false", a, b, keysA, keysB, p, is)
	}
}

func TestNoPairOfNoRom(t *testing.T) {
	right := romFor(9)
	for _, wrong := range wrongRoms() {
		for _, list := range [][]impl.Msg{nil, {keys(5, 5)}, {keys(0, 5)}} {
			wantNoPair(t, wrong, right, list, nil)
			wantNoPair(t, right, wrong, nil, list)
			wantNoPair(t, wrong, wrong, list, list)
		}
	}
}

func TestNoPairOfWhatIsNoKeys(t *testing.T) {
	right := romFor(9)
	wrong := append(wrongInboxes(), []impl.Msg{keys(0, 5)}, []impl.Msg{keys(0, 5), keys(1, 5)}, []impl.Msg{beat(5, 1)}, []impl.Msg{answer(5, 0)}, []impl.Msg{keys(5, 1), beat(6, 1)}, []impl.Msg{answer(5, 1), keys(5, 1)})
	for _, list := range wrong {
		for _, other := range [][]impl.Msg{nil, {keys(1, 1)}} {
			wantNoPair(t, right, right, list, other)
			wantNoPair(t, right, right, other, list)
		}
		wantNoPair(t, right, right, list, list)
	}
}

// wantClocks: after each step the Clocks are these.
func wantClocks(t *testing.T, p impl.Pair, clocks [][2]int64) {
	t.Helper()
	for i, want := range clocks {
		before := p
		p, _ = impl.PairStep(p)
		if len(p.Machines) != 2 || p.Machines[0].Clock != want[0] || p.Machines[1].Clock != want[1] {
			t.Fatalf("step %d from %+v: got %+v, want the Clocks %v", i, before, p, want)
		}
	}
}

func TestWhoIsBehindGoesFirst(t *testing.T) {
	mixed := []int64{cNop, cLda, 9, cJmp, 0}
	wantClocks(t, wantNewPair(t, romOf(t, mixed...), romOf(t, cJmp, 0), nil, nil), [][2]int64{
		{1, 0}, {1, 3}, {3, 3}, {6, 3}, {6, 6}, {7, 6}, {7, 9}, {9, 9}, {12, 9}, {12, 12},
	})
	wantClocks(t, wantNewPair(t, romOf(t, cJmp, 0), romOf(t, mixed...), nil, nil), [][2]int64{
		{3, 0}, {3, 1}, {3, 3}, {6, 3}, {6, 6}, {9, 6}, {9, 7}, {9, 9}, {12, 9}, {12, 12},
	})
	// One that is far behind goes alone till it is past the other one.
	p := pairWith(atClock(quiet(cJmp, 0), 490), quiet(cNop, cNop, cNop, cHlt), nil, nil)
	wantClocks(t, p, [][2]int64{{493, 500}, {496, 500}, {499, 500}, {502, 500}, {502, 501}, {502, 502}, {505, 502}, {505, 503}})
	wantClocks(t, turnedRound(p), [][2]int64{{500, 493}, {500, 496}, {500, 499}, {500, 502}, {501, 502}, {502, 502}, {503, 502}, {503, 505}})
	// Alike, however late it is: the first one.
	for _, clock := range []int64{0, 1, 500, impl.MaxUntil, lastEnd - 1} {
		p := pairWith(atClock(quiet(cNop), clock), atClock(quiet(cNop), clock), nil, nil)
		wantClocks(t, p, [][2]int64{{clock + 1, clock}, {clock + 1, clock + 1}})
	}
}

// TestAStepByHand: one side answers a beat; the other one stays as it is, but for what it is sent.
func TestAStepByHand(t *testing.T) {
	a := onCable(waiting(150, 1))
	told := []impl.Ev{wentOut(3, 4), calledBy(900, 9)}
	p := pairWith(a, atClock(quiet(cPut, 249), 501), []impl.Msg{beat(501, 1), keys(503, 8), keys(504, 9)}, []impl.Msg{answer(508, 0), beat(509, 1), answer(509, 0), keys(509, 4)})
	p.Traces = [][]impl.Ev{told, {byteAt(7, 7)}}
	want := pairCopy(p)
	x := &want.Machines[0]
	x.Pc, x.Clock, x.Timer.Count, x.Serial, x.Keys, x.Flags = 40, 503, 503, idle(45), 8, 6
	want.Inboxes[0] = []impl.Msg{keys(504, 9)}
	want.Inboxes[1] = []impl.Msg{answer(508, 0), beat(509, 1), answer(509, 0), answer(509, 1), keys(509, 4)}
	want.Traces[0] = append(slices.Clone(told), byteAt(501, 45))
	wantPairStep(t, p, want, true)
	p, want = turnedRound(p), turnedRound(want)
	// Now the one that is not behind is the first one.
	wantPairStep(t, p, want, true)
}

func TestWhatIsSentGoesToTheOtherOne(t *testing.T) {
	// A beat of its own and three answers in one step, each at its place.
	a := onCable(leading(150, 8, 502))
	p := pairWith(a, quiet(cNop), []impl.Msg{beat(501, 1), beat(502, 0), beat(503, 1), beat(504, 1)}, []impl.Msg{keys(502, 1), beat(510, 0), keys(510, 3), keys(511, 4)})
	want := pairCopy(p)
	x := &want.Machines[0]
	x.Pc, x.Clock, x.Timer.Count, x.Serial = 40, 503, 503, asking(150, 8)
	want.Inboxes[0] = []impl.Msg{beat(504, 1)}
	want.Inboxes[1] = []impl.Msg{keys(502, 1), answer(509, 1), beat(510, 0), beat(510, 1), answer(510, 1), keys(510, 3), answer(511, 1), keys(511, 4)}
	wantPairStep(t, p, want, true)
	p.Machines[1], want.Machines[1] = atClock(p.Machines[1], 501), atClock(want.Machines[1], 501)
	wantPairStep(t, turnedRound(p), turnedRound(want), true)
}

// looping: a byte into the port, and the order; then it goes round.
func looping(t *testing.T, data, order int64) []int64 {
	return romOf(t, cLda, data, cPut, 240, cLda, order, cPut, 241, cJmp, 8)
}

func wantTraded(t *testing.T, p impl.Pair, leads int, led, waited int64) {
	t.Helper()
	// The order comes into force at 7: beats at 39 and each 48 later, there 8 later, answered 8 later.
	p = impl.PairTo(p, 391)
	if len(p.Machines) != 2 || p.Machines[leads].Serial != idle(waited) || p.Machines[1-leads].Serial != idle(led) {
		t.Fatalf("%d led by side %d against %d: %+v", led, leads, waited, p)
	}
	if !slices.Equal(p.Traces[leads], []impl.Ev{byteAt(391, waited)}) || !slices.Equal(p.Traces[1-leads], []impl.Ev{byteAt(383, led)}) {
		t.Fatalf("%d led by side %d against %d: Traces %v", led, leads, waited, p.Traces)
	}
	if p.Machines[0].Flags != 2 || p.Machines[1].Flags != 2 || len(p.Inboxes[0]) != 0 || len(p.Inboxes[1]) != 0 {
		t.Fatalf("%d led by side %d against %d: %+v", led, leads, waited, p)
	}
}

func TestBytesAreTraded(t *testing.T) {
	both := func(led, waited int64) {
		a, b := looping(t, led, 129), looping(t, waited, 128)
		wantTraded(t, wantNewPair(t, a, b, nil, nil), 0, led, waited)
		wantTraded(t, wantNewPair(t, b, a, nil, nil), 1, led, waited)
	}
	for n := range int64(256) {
		both(n, (n*167+91)%256)
	}
	for _, led := range edgeBytes {
		for _, waited := range edgeBytes {
			both(led, waited)
		}
	}
}

// TestATradeOnItsWay: bit by bit, and what is on the cable.
func TestATradeOnItsWay(t *testing.T) {
	const led, waited = 200, 7
	p := wantNewPair(t, romOf(t, cLda, led, cPut, 240, cLda, 129, cPut, 241, cHlt), romOf(t, cLda, waited, cPut, 240, cLda, 128, cPut, 241, cHlt), nil, nil)
	dataA, dataB := int64(led), int64(waited)
	for bit := range int64(8) {
		sent := 39 + 48*bit
		p = impl.PairTo(p, sent)
		if p.Machines[0].Serial != asking(dataA, 8-bit) || !slices.Equal(p.Inboxes[1], []impl.Msg{beat(sent+8, topBit(dataA))}) || p.Machines[1].Serial != waiting(dataB, 8-bit) {
			t.Fatalf("beat %d: %+v", bit, p)
		}
		p = impl.PairTo(p, sent+8)
		next := shiftedIn(dataB, topBit(dataA))
		if s := p.Machines[1].Serial; s.Data != next || s.Left != 7-bit || s.Busy != (bit < 7) || len(p.Inboxes[1]) != 0 || !slices.Equal(p.Inboxes[0], []impl.Msg{answer(sent+16, topBit(dataB))}) {
			t.Fatalf("beat %d: %+v", bit, p)
		}
		p = impl.PairTo(p, sent+16)
		dataA, dataB = shiftedIn(dataA, topBit(dataB)), next
		if s := p.Machines[0].Serial; s.Data != dataA || s.Left != 7-bit || bit < 7 && s != leading(dataA, 7-bit, sent+48) || len(p.Inboxes[0]) != 0 {
			t.Fatalf("beat %d: %+v", bit, p)
		}
	}
	if dataA != waited || dataB != led || len(p.Traces[0]) != 1 || len(p.Traces[1]) != 1 {
		t.Fatalf("%+v", p)
	}
}

// TestTradesThatComeToNothing: nobody waits, or both lead: bits of 1 come back.
func TestTradesThatComeToNothing(t *testing.T) {
	alone := impl.PairTo(wantNewPair(t, looping(t, 90, 129), romOf(t, cHlt), nil, nil), 500)
	if alone.Machines[0].Serial != idle(255) || alone.Machines[1].Serial != idle(0) || !slices.Equal(alone.Traces[0], []impl.Ev{byteAt(391, 255)}) || len(alone.Traces[1]) != 0 {
		t.Fatalf("%+v", alone)
	}
	bothLead := impl.PairTo(wantNewPair(t, looping(t, 90, 129), looping(t, 91, 129), nil, nil), 500)
	for side, m := range bothLead.Machines {
		if m.Serial != idle(255) || !slices.Equal(bothLead.Traces[side], []impl.Ev{byteAt(391, 255)}) {
			t.Fatalf("%+v", bothLead)
		}
	}
	// One that comes to wait when five beats are lost: five bits are still to come.
	late := []int64{cLda, 60, cPut, 240, cLdb, 60, cDeb, cJnz, 6, cLda, 128, cPut, 241, cHlt}
	p := impl.PairTo(wantNewPair(t, looping(t, 0b01011010, 129), romOf(t, late...), nil, nil), 500)
	// It waits from 252 on, with 60 (00111100): the beats at 47, 95, 143, 191 and 239 are lost.
	if p.Machines[1].Serial != waiting(0b11100010, 5) || p.Machines[0].Serial != idle(0b11111001) {
		t.Fatalf("%+v", p)
	}
}

func TestKeysOnBothSides(t *testing.T) {
	keysA, keysB := []impl.Msg{keys(2, 20), keys(4, 40), keys(4, 41), keys(9, 90)}, []impl.Msg{keys(1, 10), keys(3, 30)}
	p := wantNewPair(t, romOf(t, cHlt), romOf(t, cHlt), keysA, keysB)
	for until, want := range [][4]int64{{0, 0, 4, 2}, {0, 10, 4, 1}, {20, 10, 3, 1}, {20, 30, 3, 0}, {41, 30, 1, 0}, {41, 30, 1, 0}} {
		got := impl.PairTo(p, int64(until))
		if got.Machines[0].Keys != want[0] || got.Machines[1].Keys != want[1] || len(got.Inboxes[0]) != int(want[2]) || len(got.Inboxes[1]) != int(want[3]) {
			t.Fatalf("to %d: %+v, want %v", until, got, want)
		}
		for side, m := range got.Machines {
			if m.Flags != min(4, 4*m.Keys) || m.Clock != int64(until) {
				t.Fatalf("to %d, side %d: %+v", until, side, m)
			}
		}
	}
}

// pairRom: set up with interrupts and the port, then a loop of these dice's; each byte that was through starts another one, if it is wanted.
func (d *dice) pairRom(t *testing.T, order int64) []int64 {
	code := make([]int64, 64)
	copy(code, []int64{cJmp, 40})
	copy(code[16:], []int64{cGet, 243, cPut, 249, cRti})
	copy(code[24:], []int64{cGet, 240, cPut, 249, cLda, order, cPut, 241})
	copy(code[32:], []int64{cGet, 248, cPut, 249, cRti})
	copy(code[40:], []int64{cLda, d.below(8), cPut, 247, cPut, 245, cLda, d.below(256), cPut, 240, cLda, order, cPut, 241, cEni})
	for range 10 {
		code = append(code, d.runDeed()...)
	}
	return romOf(t, append(code, cJmp, 64)...)
}

// newPair: most often one leads and the other one waits.
func (d *dice) newPair(t *testing.T) impl.Pair {
	t.Helper()
	order := 128 + d.below(2)
	other := 257 - order
	if d.below(5) == 0 {
		other = order
	}
	return wantNewPair(t, d.pairRom(t, order), d.pairRom(t, other), d.pairKeys(), d.pairKeys())
}

// pairKeys: none at 0.
func (d *dice) pairKeys() []impl.Msg {
	var list []impl.Msg
	at := int64(1)
	for range d.below(12) {
		at += d.below(60)
		list = append(list, keys(at, d.below(256)))
	}
	return list
}

// wantNothingPast: what the promise says of the pair after a step of that side.
func wantNothingPast(t *testing.T, before, p impl.Pair, side int) {
	t.Helper()
	if apart := p.Machines[0].Clock - p.Machines[1].Clock; apart < -5 || apart > 5 {
		t.Fatalf("the Clocks are %d apart: %+v", apart, p)
	}
	for i, inbox := range p.Inboxes {
		if len(inbox) > 0 && inbox[0].At < p.Machines[i].Clock {
			t.Fatalf("side %d: %v lies before %d", i, inbox[0], p.Machines[i].Clock)
		}
	}
	old := before.Inboxes[1-side]
	for _, msg := range p.Inboxes[1-side] {
		if len(old) > 0 && old[0] == msg {
			old = old[1:]
		} else if msg.At < before.Machines[side].Clock+8 {
			t.Fatalf("%v is sent at %d", msg, before.Machines[side].Clock)
		}
	}
	if p.Machines[side].Clock <= before.Machines[side].Clock || p.Machines[1-side].Clock != before.Machines[1-side].Clock {
		t.Fatalf("side %d should have gone: from %+v to %+v", side, before, p)
	}
}

func sideBehind(p impl.Pair) int {
	if p.Machines[0].Clock <= p.Machines[1].Clock {
		return 0
	}
	return 1
}

// TestNothingArrivesInThePast: many pairs, step by step, each step worked out by the document's words, too.
func TestNothingArrivesInThePast(t *testing.T) {
	d := dice(362436069)
	evs, sent := map[int64]int{}, map[int64]int{}
	for range 40 {
		p := d.newPair(t)
		for range 800 {
			want, is := pairStepByWords(p)
			got := wantPairStep(t, p, want, is)
			if !is {
				t.Fatalf("there is no step of %+v", p)
			}
			wantPairOk(t, got, true)
			wantNothingPast(t, p, got, sideBehind(p))
			p = got
			for _, msg := range slices.Concat(p.Inboxes...) {
				sent[msg.Kind]++
			}
		}
		for _, ev := range slices.Concat(p.Traces...) {
			evs[ev.Kind]++
		}
	}
	for kind := int64(1); kind <= 3; kind++ {
		if evs[kind] < 50 || sent[kind] < 500 {
			t.Fatalf("too few: Evs %v, Msgs %v", evs, sent)
		}
	}
}

// wantPairInParts: to each of these times, one from where the other one ended, is to the last of them at once.
func wantPairInParts(t *testing.T, p impl.Pair, untils ...int64) {
	t.Helper()
	whole := impl.PairTo(p, untils[len(untils)-1])
	parts := p
	for _, until := range untils {
		parts = impl.PairTo(parts, until)
		wantPairOk(t, parts, true)
	}
	if !likePairs(parts, whole) {
		t.Fatalf("PairTo of %+v, in parts %v:\n got %+v\nwant %+v", p, untils, parts, whole)
	}
}

func TestPairsInParts(t *testing.T) {
	d := dice(521288629)
	for range 25 {
		p := d.newPair(t)
		until := 100 + d.below(500)
		wantPairTo(t, p, until, pairToByWords(p, until))
		for cut := d.below(5); cut <= until; cut += 20 + d.below(100) {
			wantPairInParts(t, p, cut, until)
			wantPairInParts(t, p, cut/2, cut/2, cut, min(cut+1, until), until)
		}
	}
	p := wantNewPair(t, looping(t, 200, 129), looping(t, 7, 128), nil, []impl.Msg{keys(40, 4)})
	for cut := range int64(130) {
		wantPairInParts(t, p, cut, 130)
	}
	wantPairInParts(t, p, 3333, 20000)
}

// apart: the first one at 500, the second one at 503, with Msgs that are due on both sides.
func apart() impl.Pair {
	a, b := quiet(cNop, cNop, cNop, cJmp, 0), quiet(cPut, 249, cJmp, 0)
	a.Mask, b.Mask = 0, 0
	return pairWith(a, atClock(b, 503), []impl.Msg{beat(400, 1), keys(500, 5), keys(501, 6)}, []impl.Msg{beat(503, 1), keys(504, 5)})
}

func TestPairsToAClock(t *testing.T) {
	for _, p := range []impl.Pair{apart(), turnedRound(apart())} {
		for _, until := range []int64{0, 1, 499, 500} {
			wantPairTo(t, p, until, pairCopy(p))
		}
		// The Clocks of the one at 500 and of the other one, when it is to this time.
		for i, want := range [][2]int64{{501, 503}, {502, 503}, {503, 503}, {506, 506}, {506, 506}, {506, 506}, {507, 509}} {
			until := int64(501 + i)
			got := wantPairTo(t, p, until, pairToByWords(p, until))
			low, high := min(got.Machines[0].Clock, got.Machines[1].Clock), max(got.Machines[0].Clock, got.Machines[1].Clock)
			if [2]int64{low, high} != want {
				t.Fatalf("to %d: %d and %d, want %v", until, low, high, want)
			}
		}
	}
	for _, clock := range []int64{0, 1, 7, 99999, 100000, 100001, lastEnd, impl.MaxClock} {
		p := pairWith(atClock(quiet(cNop), clock), atClock(quiet(cNop), clock), []impl.Msg{keys(clock/2, 1), keys(clock, 3)}, []impl.Msg{beat(clock, 1)})
		for _, until := range []int64{0, clock - 1, clock} {
			if until >= 0 && until <= impl.MaxUntil {
				wantPairTo(t, p, until, pairCopy(p))
			}
		}
		if clock >= impl.MaxUntil {
			wantPairTo(t, p, impl.MaxUntil, pairCopy(p))
			continue
		}
		got := wantPairTo(t, p, clock+1, pairToByWords(p, clock+1))
		if got.Machines[0].Clock != clock+1 || got.Machines[1].Clock != clock+1 {
			t.Fatalf("from %d: %+v", clock, got)
		}
	}
}

func TestPairsToNoTime(t *testing.T) {
	late := pairWith(atClock(quiet(cNop), impl.MaxClock), atClock(quiet(cNop), impl.MaxClock), nil, nil)
	for _, until := range wrongUntils {
		for _, p := range []impl.Pair{apart(), late, wantNewPair(t, romFor(2), romFor(3), nil, nil)} {
			wantPairTo(t, p, until, impl.Pair{})
		}
	}
	for _, until := range []int64{0, 1, impl.MaxUntil - 1, impl.MaxUntil} {
		wantPairTo(t, late, until, pairCopy(late))
	}
}

// TestTheLongestPair: from 0 to MaxUntil, one in steps of three cycles, the other one halted.
func TestTheLongestPair(t *testing.T) {
	p := wantNewPair(t, romOf(t, cJmp, 0), romOf(t, cHlt), nil, slices.Repeat([]impl.Msg{keys(99999, 3)}, 200))
	want := pairCopy(p)
	want.Machines[0], want.Machines[1] = atClock(want.Machines[0], 100002), atClock(want.Machines[1], 100000)
	want.Machines[1].Halted, want.Machines[1].Pc, want.Machines[1].Keys, want.Machines[1].Flags = true, 1, 3, 4
	want.Inboxes[1] = nil
	wantPairTo(t, p, impl.MaxUntil, want)
	wantPairTo(t, turnedRound(p), impl.MaxUntil, turnedRound(want))
}

// TestFullTraces: Evs go behind a Trace up to MaxTrace; a step that would tell more is none.
func TestFullTraces(t *testing.T) {
	tells := func(count int) impl.Machine {
		m := quiet([][]int64{{cJmp, 40}, {cPut, 249}, {cPut, 249}}[count]...)
		m.Serial = waiting(150, 1)
		return m
	}
	for count := range 3 {
		var inbox []impl.Msg
		if count == 2 {
			inbox = []impl.Msg{beat(502, 1)}
		}
		for _, size := range []int{0, 1, 2997, 2998, 2999, 3000, 3001, 6000} {
			p := pairWith(tells(count), atClock(quiet(cNop), 501), inbox, nil)
			p.Traces = [][]impl.Ev{slices.Repeat([]impl.Ev{calledBy(3, 1)}, size), slices.Repeat([]impl.Ev{wentOut(4, 1)}, min(size, 3000))}
			wantPairOk(t, p, size <= 3000)
			wantPairOk(t, turnedRound(p), size <= 3000)
			if size > 3000 {
				wantPairStep(t, p, impl.Pair{}, false)
				wantPairStep(t, turnedRound(p), impl.Pair{}, false)
				wantPairTo(t, p, 0, impl.Pair{})
				wantPairTo(t, turnedRound(p), 600, impl.Pair{})
				continue
			}
			want, is := pairStepByWords(p)
			if is != (size+count <= 3000) || is && len(want.Traces[0]) != size+count {
				t.Fatalf("%d behind %d: %v %+v", count, size, is, want)
			}
			wantPairStep(t, p, want, is)
			wantPairStep(t, turnedRound(p), turnedRound(want), is)
			wantPairTo(t, p, 501, want)
			wantPairTo(t, turnedRound(p), 501, turnedRound(want))
		}
	}
}

// TestPairsThatTellTooMuch: 3000 Evs, at 3 and each 6 later; there they stand.
func TestPairsThatTellTooMuch(t *testing.T) {
	p := wantNewPair(t, romOf(t, cPut, 249, cJmp, 0), romOf(t, cHlt), nil, nil)
	for _, x := range []struct {
		p              impl.Pair
		tells          int
		clockA, clockB int64
	}{{p, 0, 18000, 18000}, {turnedRound(p), 1, 18001, 18000}} {
		got := impl.PairTo(x.p, impl.MaxUntil)
		if len(got.Traces[x.tells]) != 3000 || got.Machines[0].Clock != x.clockA || got.Machines[1].Clock != x.clockB {
			t.Fatalf("%d Evs at %d and %d", len(got.Traces[x.tells]), got.Machines[0].Clock, got.Machines[1].Clock)
		}
		for i, ev := range got.Traces[x.tells] {
			if ev != wentOut(int64(3+6*i), 0) {
				t.Fatalf("Ev %d: %v", i, ev)
			}
		}
		wantStays(t, got)
		wantPairTo(t, got, impl.MaxUntil, pairCopy(got))
	}
}

// TestFullInboxesOfPairs: what is sent goes in up to MaxInbox; a step that would send more is none.
func TestFullInboxesOfPairs(t *testing.T) {
	far := func(size int) []impl.Msg { return slices.Repeat([]impl.Msg{keys(900, 1)}, size) }
	for sends := range 4 {
		inbox := slices.Repeat([]impl.Msg{beat(501, 1)}, sends)
		for _, size := range []int{0, 196, 197, 198, 199, 200} {
			p := pairWith(onCable(idle(9)), atClock(quiet(cNop), 501), inbox, far(size))
			want, is := pairStepByWords(p)
			if is != (size+sends <= 200) || is && len(want.Inboxes[1]) != size+sends {
				t.Fatalf("%d into %d: %v %+v", sends, size, is, want)
			}
			wantPairStep(t, p, want, is)
			wantPairStep(t, turnedRound(p), turnedRound(want), is)
			wantPairTo(t, p, 501, want)
			wantPairTo(t, turnedRound(p), 501, turnedRound(want))
		}
	}
	// Its own inbox may be full: what was used is out of it.
	full := pairWith(onCable(idle(9)), atClock(quiet(cNop), 501), far(200), far(200))
	want, _ := pairStepByWords(full)
	wantPairStep(t, full, want, true)
	full.Inboxes[0] = slices.Repeat([]impl.Msg{beat(502, 1)}, 200)
	wantStays(t, full)
	full.Inboxes[1] = nil
	want, is := pairStepByWords(full)
	if !is || len(want.Inboxes[0]) != 0 || len(want.Inboxes[1]) != 200 {
		t.Fatalf("%v %+v", is, want)
	}
	wantPairStep(t, full, want, true)
}

// TestPairsThatSendTooMuch: the first beat, at 39, finds no room; the other one goes on till it is ahead.
func TestPairsThatSendTooMuch(t *testing.T) {
	lots := slices.Repeat([]impl.Msg{keys(1000, 3)}, 200)
	p := wantNewPair(t, romOf(t, cLda, 129, cPut, 241, cHlt), romOf(t, cHlt), nil, lots)
	got := impl.PairTo(p, 2000)
	// The order comes into force at 2: its beat is at 34.
	if got.Machines[0].Clock != 33 || got.Machines[1].Clock != 33 || len(got.Inboxes[1]) != 200 {
		t.Fatalf("%+v", got)
	}
	wantStays(t, got)
	// With one less there is room for each beat, as the one before it is used by then.
	p.Inboxes[1] = lots[1:]
	got = wantPairTo(t, p, 2000, pairToByWords(p, 2000))
	if got.Machines[0].Serial != idle(255) || len(got.Inboxes[1]) != 0 || got.Machines[0].Clock != 2000 {
		t.Fatalf("%+v", got)
	}
}

func TestPairsWithoutAStep(t *testing.T) {
	for _, c := range []struct {
		codeA, codeB   int64
		clockA, clockB int64
		steps          int
	}{
		{cNop, cNop, lastEnd, lastEnd, 0}, {cNop, cNop, impl.MaxClock, impl.MaxClock, 0}, {cNop, cNop, lastEnd, lastEnd - 1, 1},
		{cNop, cNop, lastEnd - 1, lastEnd, 1}, {cNop, cNop, lastEnd - 1, lastEnd - 1, 2}, {cNop, cLda, lastEnd - 1, lastEnd - 1, 1},
		{cLda, cNop, lastEnd - 1, lastEnd - 1, 0}, {cLda, cNop, lastEnd - 1, lastEnd - 2, 1}, {cNop, cNop, lastEnd - 3, impl.MaxClock, 3},
	} {
		p := pairWith(atClock(quiet(c.codeA, cNop), c.clockA), atClock(quiet(c.codeB, cNop), c.clockB), []impl.Msg{beat(7, 1)}, []impl.Msg{keys(lastArrival, 1)})
		for i := range p.Machines {
			p.Machines[i].Mask = 0
			p.Machines[i].Halted = c.codeA == cNop && c.codeB == cNop
		}
		for range c.steps {
			want, _ := pairStepByWords(p)
			p = wantPairStep(t, p, want, true)
			wantPairOk(t, p, true)
		}
		wantStays(t, p)
		wantPairTo(t, p, impl.MaxUntil, pairCopy(p))
	}
}

func wantWrongPair(t *testing.T, p impl.Pair) {
	t.Helper()
	wantPairOk(t, p, false)
	wantPairStep(t, p, impl.Pair{}, false)
	for _, until := range []int64{-1, 0, 100, 600, impl.MaxUntil, impl.MaxUntil + 1} {
		wantPairTo(t, p, until, impl.Pair{})
	}
}

func TestWrongPairs(t *testing.T) {
	wantWrongPair(t, impl.Pair{})
	for side := range 2 {
		for _, m := range wrongMachines() {
			p := apart()
			p.Machines[side] = m
			wantWrongPair(t, p)
		}
		for _, inbox := range wrongInboxes() {
			p := apart()
			p.Inboxes[side] = inbox
			wantWrongPair(t, p)
		}
		p := apart()
		p.Traces[side] = make([]impl.Ev, 3001)
		wantWrongPair(t, p)
	}
}

// TestPairsOfNotTwo: of each list there must be two.
func TestPairsOfNotTwo(t *testing.T) {
	wantPairOk(t, apart(), true)
	for _, put := range []func(p *impl.Pair){
		func(p *impl.Pair) { p.Machines = nil },
		func(p *impl.Pair) { p.Machines = p.Machines[:1] },
		func(p *impl.Pair) { p.Machines = append(p.Machines, p.Machines[0]) },
		func(p *impl.Pair) { p.Inboxes = nil },
		func(p *impl.Pair) { p.Inboxes = p.Inboxes[1:] },
		func(p *impl.Pair) { p.Inboxes = append(p.Inboxes, nil) },
		func(p *impl.Pair) { p.Traces = nil },
		func(p *impl.Pair) { p.Traces = p.Traces[:1] },
		func(p *impl.Pair) { p.Traces = append(p.Traces, nil) },
		func(p *impl.Pair) { p.Machines, p.Inboxes, p.Traces = p.Machines[:1], p.Inboxes[:1], p.Traces[:1] },
		func(p *impl.Pair) {
			p.Machines, p.Inboxes, p.Traces = append(p.Machines, p.Machines...), append(p.Inboxes, p.Inboxes...), append(p.Traces, p.Traces...)
		},
	} {
		p := apart()
		put(&p)
		wantWrongPair(t, p)
	}
}

// TestAnyEvMayBeInATrace: the document says nothing of which ones.
func TestAnyEvMayBeInATrace(t *testing.T) {
	p := apart()
	p.Traces = [][]impl.Ev{{{At: -5, Kind: 77, Value: -1}, {At: impl.MaxClock * 2}}, make([]impl.Ev, 3000)}
	wantPairOk(t, p, true)
	want, _ := pairStepByWords(p)
	wantPairStep(t, p, want, true)
}

// wantApart: what is put into one of these lists, its spare room, too, is in no other one; they are spent by it.
func wantApart[T comparable](t *testing.T, lists [][]T, mark T) {
	t.Helper()
	for i, list := range lists {
		var others [][]T
		for k, other := range lists {
			if k != i {
				others = append(others, other, slices.Clone(other))
			}
		}
		whole := list[:cap(list)]
		for k := range whole {
			whole[k] = mark
		}
		for k := 0; k < len(others); k += 2 {
			if !slices.Equal(others[k], others[k+1]) {
				t.Fatalf("list %d of one answer shares memory with another one", i)
			}
		}
		// Not to be taken for the mark when the next list is marked.
		for k := range whole {
			var zero T
			whole[k] = zero
		}
	}
}

// wantPairApart: no two lists of it share any memory; it is spent by it.
func wantPairApart(t *testing.T, p impl.Pair) {
	t.Helper()
	var numbers [][]int64
	for _, m := range p.Machines {
		numbers = append(numbers, m.Rom, m.Ram)
	}
	wantApart(t, numbers, -5)
	wantApart(t, p.Inboxes, impl.Msg{At: -9, Kind: -9, Value: -9})
	wantApart(t, p.Traces, impl.Ev{At: -9, Kind: -9, Value: -9})
	for i := range p.Machines[:cap(p.Machines)] {
		p.Machines[:cap(p.Machines)][i] = impl.Machine{}
	}
	for i := range p.Inboxes[:cap(p.Inboxes)] {
		p.Inboxes[:cap(p.Inboxes)][i] = nil
	}
	for i := range p.Traces[:cap(p.Traces)] {
		p.Traces[:cap(p.Traces)][i] = nil
	}
}

// roomy: list, and as much spare room behind it, where those elements stand again; and the whole of it.
func roomy[T any](list []T) ([]T, []T) {
	whole := append(slices.Clone(list), list...)
	return whole[:len(list)], whole
}

// pairsToShare: what steps, what only stays, and what is not right.
func pairsToShare(t *testing.T) []impl.Pair {
	list := []impl.Pair{apart(), turnedRound(apart()), pairWith(atClock(quiet(cNop), impl.MaxClock), atClock(quiet(cNop), impl.MaxClock), []impl.Msg{keys(5, 5)}, []impl.Msg{keys(6, 6)})}
	for _, serial := range []impl.Serial{waiting(44, 1), leading(44, 3, 501), idle(4)} {
		list = append(list, pairWith(onCable(serial), onCable(asking(9, 1)), []impl.Msg{beat(501, 1), beat(501, 0), keys(900, 1)}, []impl.Msg{answer(501, 1), keys(901, 1)}))
	}
	for i := range list {
		list[i].Traces = [][]impl.Ev{{wentOut(1, 2), calledBy(3, 1)}, {byteAt(5, 6)}}
	}
	full := pairCopy(list[3])
	full.Inboxes[1] = slices.Repeat([]impl.Msg{keys(990, 1)}, 200)
	wrong := pairCopy(list[3])
	wrong.Machines[1].Keys = 256
	lots := pairCopy(list[3])
	lots.Traces[0] = make([]impl.Ev, 3000)
	return append(list, full, wrong, lots, wantNewPair(t, looping(t, 9, 129), looping(t, 8, 128), []impl.Msg{keys(5, 5)}, nil))
}

// pairAnswers: what PairStep and PairTo make of a Pair.
func pairAnswers() []func(impl.Pair) impl.Pair {
	list := []func(impl.Pair) impl.Pair{func(p impl.Pair) impl.Pair {
		next, _ := impl.PairStep(p)
		return next
	}}
	for _, until := range []int64{-1, 0, 500, 501, 520, 600} {
		list = append(list, func(p impl.Pair) impl.Pair { return impl.PairTo(p, until) })
	}
	return list
}

func TestPairsShareNothing(t *testing.T) {
	for _, p := range pairsToShare(t) {
		for _, call := range pairAnswers() {
			given := pairCopy(p)
			machines, wholeMachines := roomy(given.Machines)
			inboxes, wholeInboxes := roomy(given.Inboxes)
			traces, wholeTraces := roomy(given.Traces)
			for i := range 2 {
				machines[i].Rom, _ = withRoom(machines[i].Rom)
				machines[i].Ram, _ = withRoom(machines[i].Ram)
				inboxes[i], _ = msgsWithRoom(inboxes[i])
				traces[i], _ = roomy(traces[i])
			}
			given = impl.Pair{Machines: machines, Inboxes: inboxes, Traces: traces}
			whole := impl.Pair{Machines: wholeMachines, Inboxes: wholeInboxes, Traces: wholeTraces}
			spread := func() impl.Pair { return spreadOut(whole) }
			before := pairCopy(spread())
			first, second := call(given), call(given)
			want := pairCopy(second)
			wantPairApart(t, first)
			if !likePairs(spread(), before) || !likePairs(second, want) {
				t.Fatalf("%+v: answers share memory, or what was given is changed", p)
			}
			wantPairApart(t, spreadOut(whole))
			if !likePairs(second, want) {
				t.Fatalf("%+v: the answer shares memory with its argument", p)
			}
		}
	}
}

// spreadOut: each list of it with the spare room behind it.
func spreadOut(p impl.Pair) impl.Pair {
	var out impl.Pair
	for _, m := range p.Machines {
		m.Rom, m.Ram = m.Rom[:cap(m.Rom)], m.Ram[:cap(m.Ram)]
		out.Machines = append(out.Machines, m)
	}
	for _, inbox := range p.Inboxes {
		out.Inboxes = append(out.Inboxes, inbox[:cap(inbox)])
	}
	for _, trace := range p.Traces {
		out.Traces = append(out.Traces, trace[:cap(trace)])
	}
	return out
}

// TestPairsOfOneMemory: both sides may lie in the same memory; the answer's do not.
func TestPairsOfOneMemory(t *testing.T) {
	one := onCable(waiting(150, 1))
	inbox, trace := []impl.Msg{beat(501, 1), beat(502, 1)}, []impl.Ev{wentOut(1, 2)}
	p := impl.Pair{Machines: []impl.Machine{one, one}, Inboxes: [][]impl.Msg{inbox, inbox}, Traces: [][]impl.Ev{trace, trace}}
	before := pairCopy(p)
	for _, call := range pairAnswers() {
		want := call(pairCopy(p))
		got := call(p)
		if !likePairs(got, want) || !likePairs(p, before) {
			t.Fatalf("got %+v, want %+v", got, want)
		}
		wantPairApart(t, got)
		if !likePairs(p, before) {
			t.Fatal("the answer shares memory with its argument")
		}
	}
}

func TestNewPairsShareNothing(t *testing.T) {
	for _, list := range [][]impl.Msg{{}, {keys(3, 5)}, {keys(3, 5), keys(3, 4), keys(9, 9)}, slices.Repeat([]impl.Msg{keys(7, 1)}, 200)} {
		rom, wholeRom := withRoom(romFor(40))
		given, wholeKeys := msgsWithRoom(list)
		beforeRom, beforeKeys := slices.Clone(wholeRom), slices.Clone(wholeKeys)
		// The same memory for both sides, twice.
		first, second := wantNewPair(t, rom, rom, given, given), wantNewPair(t, rom, rom, given, given)
		want := pairCopy(second)
		wantPairApart(t, first)
		if !slices.Equal(wholeRom, beforeRom) || !slices.Equal(wholeKeys, beforeKeys) || !likePairs(second, want) {
			t.Fatalf("NewPair with %v: answers share memory, or what was given is changed", list)
		}
		fill(wholeRom, -9)
		spoil(wholeKeys)
		if !likePairs(second, want) {
			t.Fatalf("NewPair with %v: the answer shares memory with its argument", list)
		}
	}
}

// TestAPairStepChangesNothingBefore: a step from where another one ended leaves that one's answer as it was.
func TestAPairStepChangesNothingBefore(t *testing.T) {
	p := wantNewPair(t, looping(t, 200, 129), looping(t, 7, 128), []impl.Msg{keys(5, 5), keys(9, 5)}, nil)
	for range 120 {
		want := pairCopy(p)
		next, _ := impl.PairStep(p)
		kept := pairCopy(next)
		wantPairApart(t, impl.PairTo(next, 600))
		wantPairApart(t, next)
		if !likePairs(p, want) {
			t.Fatalf("what went before is changed to %+v", p)
		}
		p = kept
	}
}
