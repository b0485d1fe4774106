package tests

import (
	"math"
	"slices"
	"testing"

	"loop.example/g00741/impl"
)

func nodeClone(n impl.Node) impl.Node {
	n.Machine = machineClone(n.Machine)
	n.Inbox, n.Trace, n.Outbox = slices.Clone(n.Inbox), slices.Clone(n.Trace), slices.Clone(n.Outbox)
	return n
}

func likeNodes(a, b impl.Node) bool {
	return likeMachines(a.Machine, b.Machine) && slices.Equal(a.Inbox, b.Inbox) && slices.Equal(a.Trace, b.Trace) &&
		slices.Equal(a.Outbox, b.Outbox) && a.Safe == b.Safe && a.Told == b.Told
}

// nodeOn: a node of that machine to which nothing came and which has nothing to say.
func nodeOn(m impl.Machine, safe int64) impl.Node {
	return impl.Node{Machine: machineClone(m), Safe: safe, Told: m.Clock + 9}
}

// standing: a node at 500 that may step to 501, and has something in each of its lists.
func standing() impl.Node {
	n := nodeOn(quiet(cNop, cPut, 249, cJmp, 0), 506)
	n.Inbox = []impl.Msg{beat(501, 1), keys(501, 5), keys(900, 6)}
	n.Trace = []impl.Ev{wentOut(3, 4), calledBy(480, 1), byteAt(490, 7)}
	n.Outbox = []impl.Msg{answer(508, 1), beat(507, 0)}
	return n
}

// nodeWith: n but for what is put.
func nodeWith(n impl.Node, put func(*impl.Node)) impl.Node {
	n = nodeClone(n)
	put(&n)
	return n
}

func mayStepByWords(n impl.Node, until int64) bool {
	return n.Machine.Clock < until && n.Machine.Clock+5 < n.Safe
}

// nodeStepByWords: of a right node; as it is and false where it may not, there is no step, or no room.
func nodeStepByWords(n impl.Node, until int64) (impl.Node, bool) {
	s, is := stepByWords(n.Machine, n.Inbox)
	if !is || !mayStepByWords(n, until) {
		return n, false
	}
	next := nodeClone(n)
	next.Machine = s.Machine
	next.Inbox = next.Inbox[s.Used:]
	next.Outbox = append(next.Outbox, s.Out...)
	next.Trace = append(next.Trace, s.Evs...)
	if len(next.Outbox) > 200 || len(next.Trace) > 3000 {
		return n, false
	}
	return next, true
}

func nodeSaysByWords(n impl.Node) (impl.Node, impl.Note, bool) {
	next := nodeClone(n)
	at := n.Machine.Clock + 9
	switch {
	case len(n.Outbox) > 0:
		next.Outbox = next.Outbox[1:]
		return next, carries(n.Outbox[0]), true
	case at > n.Told:
		next.Told = at
		return next, promise(at), true
	}
	return next, impl.Note{}, false
}

func nodeHearsByWords(n impl.Node, note impl.Note) (impl.Node, bool) {
	next := nodeClone(n)
	switch {
	case !noteOkByWords(note):
		return next, false
	case note.Promise:
		next.Safe = max(next.Safe, note.At)
		return next, true
	case len(n.Inbox) == 200:
		return next, false
	}
	next.Inbox = sortedWith(next.Inbox, note.Msg)
	return next, true
}

func wantNodeOk(t *testing.T, n impl.Node, want bool) {
	t.Helper()
	before := nodeClone(n)
	if impl.NodeOk(n) != want {
		t.Fatalf("NodeOk of %+v: want %v", n, want)
	}
	if !likeNodes(n, before) {
		t.Fatalf("NodeOk of %+v changes it", before)
	}
}

func wantMayStep(t *testing.T, n impl.Node, until int64, want bool) {
	t.Helper()
	before := nodeClone(n)
	if impl.MayStep(n, until) != want {
		t.Fatalf("MayStep of %+v, %d: want %v", n, until, want)
	}
	if !likeNodes(n, before) {
		t.Fatalf("MayStep of %+v, %d changes it", before, until)
	}
}

func wantNodeStep(t *testing.T, n impl.Node, until int64, want impl.Node, wantIs bool) impl.Node {
	t.Helper()
	before := nodeClone(n)
	got, is := impl.NodeStep(n, until)
	if !likeNodes(got, want) || is != wantIs {
		t.Fatalf("NodeStep of %+v, %d:\n got %+v %v\nwant %+v %v", n, until, got, is, want, wantIs)
	}
	if !likeNodes(n, before) {
		t.Fatalf("NodeStep of %+v, %d: it is changed to %+v", before, until, n)
	}
	return got
}

func wantNodeSays(t *testing.T, n, want impl.Node, wantNote impl.Note, wantIs bool) impl.Node {
	t.Helper()
	before := nodeClone(n)
	got, note, is := impl.NodeSays(n)
	if !likeNodes(got, want) || note != wantNote || is != wantIs {
		t.Fatalf("NodeSays of %+v:\n got %+v %+v %v\nwant %+v %+v %v", n, got, note, is, want, wantNote, wantIs)
	}
	if !likeNodes(n, before) {
		t.Fatalf("NodeSays of %+v: it is changed to %+v", before, n)
	}
	return got
}

func wantNodeHears(t *testing.T, n impl.Node, note impl.Note, want impl.Node, wantIs bool) impl.Node {
	t.Helper()
	before := nodeClone(n)
	got, is := impl.NodeHears(n, note)
	if !likeNodes(got, want) || is != wantIs {
		t.Fatalf("NodeHears of %+v, %+v:\n got %+v %v\nwant %+v %v", n, note, got, is, want, wantIs)
	}
	if !likeNodes(n, before) {
		t.Fatalf("NodeHears of %+v, %+v: it is changed to %+v", before, note, n)
	}
	return got
}

// wantStepsTo: it may step, and there is such a step.
func wantStepsTo(t *testing.T, n impl.Node, put func(*impl.Node)) impl.Node {
	t.Helper()
	wantMayStep(t, n, 1000, true)
	return wantNodeStep(t, n, 1000, nodeWith(n, put), true)
}

// wantNoStep: as it is and false, whether it may step or not.
func wantNoStep(t *testing.T, n impl.Node, until int64) {
	t.Helper()
	wantNodeStep(t, n, until, nodeClone(n), false)
}

// wantPromises: that is what it says; it goes on with nothing but that it has told so.
func wantPromises(t *testing.T, n impl.Node, at int64) impl.Node {
	t.Helper()
	return wantNodeSays(t, n, nodeWith(n, func(n *impl.Node) { n.Told = at }), promise(at), true)
}

func wantSaysNothing(t *testing.T, n impl.Node) {
	t.Helper()
	wantNodeSays(t, n, nodeClone(n), impl.Note{}, false)
}

// wantHeard: what it hears changes that, and nothing else.
func wantHeard(t *testing.T, n impl.Node, note impl.Note, put func(*impl.Node)) impl.Node {
	t.Helper()
	return wantNodeHears(t, n, note, nodeWith(n, put), true)
}

func noChange(*impl.Node) {}

// wantWrongNode: it is answered by the zero Node, whatever else is asked.
func wantWrongNode(t *testing.T, n impl.Node) {
	t.Helper()
	wantNodeOk(t, n, false)
	wantNodeSays(t, n, impl.Node{}, impl.Note{}, false)
	for _, until := range []int64{math.MinInt64, -1, 0, 1, 500, 501, impl.MaxUntil, impl.MaxClock, math.MaxInt64} {
		wantMayStep(t, n, until, false)
		wantNodeStep(t, n, until, impl.Node{}, false)
	}
	for _, note := range []impl.Note{promise(0), promise(505), promise(lastArrival), carries(beat(600, 1)), carries(keys(600, 9)), {}, promise(-1), {At: 5, Msg: keys(600, 9)}} {
		wantNodeHears(t, n, note, impl.Node{}, false)
	}
}

func wantNewNode(t *testing.T, rom []int64, list []impl.Msg) impl.Node {
	t.Helper()
	n, is := impl.NewNode(rom, list)
	if !is || !impl.NodeOk(n) {
		t.Fatalf("NewNode of %v, %v: %+v %v", rom, list, n, is)
	}
	return n
}

func TestNewNodesByHand(t *testing.T) {
	lists := [][]impl.Msg{nil, {}, {keys(1, 0)}, {keys(3, 5), keys(3, 4), keys(lastArrival, 255)}, slices.Repeat([]impl.Msg{keys(7, 1)}, 199), slices.Repeat([]impl.Msg{keys(7, 1)}, 200)}
	for _, size := range []int{2, 3, 64, 127, 128} {
		for _, list := range lists {
			rom := romFor(size)
			want := impl.Node{Machine: impl.Machine{Rom: rom, Ram: make([]int64, 64), Sp: 192}, Inbox: list, Safe: 9, Told: 9}
			if n := wantNewNode(t, rom, list); !likeNodes(n, want) {
				t.Fatalf("NewNode of %v, %v: got %+v", rom, list, n)
			}
		}
	}
}

func wantNoNode(t *testing.T, rom []int64, list []impl.Msg) {
	t.Helper()
	if n, is := impl.NewNode(rom, list); is || !likeNodes(n, impl.Node{}) {
		t.Fatalf("NewNode of %v, %v: got %+v %v, want the zero Node and false", rom, list, n, is)
	}
}

func TestNoNodeOfNoRom(t *testing.T) {
	for _, rom := range wrongRoms() {
		for _, list := range [][]impl.Msg{nil, {keys(5, 5)}, {keys(0, 5)}} {
			wantNoNode(t, rom, list)
		}
	}
}

func TestNoNodeOfWhatIsNoKeys(t *testing.T) {
	wrong := append(wrongInboxes(), []impl.Msg{keys(0, 5)}, []impl.Msg{keys(0, 5), keys(1, 5)}, []impl.Msg{beat(5, 1)}, []impl.Msg{answer(5, 0)}, []impl.Msg{keys(5, 1), beat(6, 1)}, []impl.Msg{answer(5, 1), keys(5, 1)})
	for _, list := range wrong {
		wantNoNode(t, romFor(9), list)
		wantNoNode(t, romFor(128), list)
	}
}

// TestPromisesAt: nine more, at numbers that are no Clock, too.
func TestPromisesAt(t *testing.T) {
	for _, c := range [][2]int64{
		{0, 9}, {1, 10}, {91, 100}, {100, 109}, {impl.MaxUntil, 100009}, {lastEnd, 999999909}, {impl.MaxClock, 1000000009}, {lastArrival, 1000000109},
		{-1, 8}, {-8, 1}, {-9, 0}, {-10, -1}, {-1000, -991}, {math.MaxInt64 - 9, math.MaxInt64}, {math.MinInt64, math.MinInt64 + 9},
		// There is no such number: it goes round.
		{math.MaxInt64 - 8, math.MinInt64}, {math.MaxInt64, math.MinInt64 + 8},
	} {
		if got := impl.PromiseAt(c[0]); got != c[1] {
			t.Fatalf("PromiseAt %d: %d, want %d", c[0], got, c[1])
		}
	}
}

// TestANodeByHand: it leads, halted; its first beat is at 34.
func TestANodeByHand(t *testing.T) {
	n := wantNewNode(t, romOf(t, cLda, 129, cPut, 241, cHlt), []impl.Msg{keys(1, 5), keys(7, 6)})
	wantSaysNothing(t, n)
	n = wantStepsTo(t, n, func(n *impl.Node) {
		n.Machine.A, n.Machine.Pc, n.Machine.Keys, n.Machine.Flags = 129, 2, 5, 4
		n.Machine, n.Inbox = atClock(n.Machine, 2), n.Inbox[1:]
	})
	n = wantStepsTo(t, n, func(n *impl.Node) {
		n.Machine.Pc, n.Machine.Serial = 4, leading(0, 8, 34)
		n.Machine = atClock(n.Machine, 5)
	})
	// Its next step could end at 10, and it was promised 9.
	wantMayStep(t, n, 1000, false)
	wantNoStep(t, n, 1000)
	n = wantPromises(t, n, 14)
	wantSaysNothing(t, n)
	n = wantHeard(t, n, promise(10), func(n *impl.Node) { n.Safe = 10 })
	wantMayStep(t, n, 1000, false)
	wantNoStep(t, n, 1000)
	n = wantHeard(t, n, promise(11), func(n *impl.Node) { n.Safe = 11 })
	n = wantStepsTo(t, n, func(n *impl.Node) {
		n.Machine.Pc, n.Machine.Halted = 5, true
		n.Machine = atClock(n.Machine, 6)
	})
	wantNoStep(t, n, 1000)
	n = wantHeard(t, n, promise(100), func(n *impl.Node) { n.Safe = 100 })
	n = wantStepsTo(t, n, func(n *impl.Node) {
		n.Machine.Keys, n.Inbox = 6, nil
		n.Machine = atClock(n.Machine, 7)
	})
	for clock := int64(8); clock <= 33; clock++ {
		n = wantStepsTo(t, n, func(n *impl.Node) { n.Machine = atClock(n.Machine, clock) })
	}
	n = wantStepsTo(t, n, func(n *impl.Node) {
		n.Machine.Serial, n.Outbox = asking(0, 8), []impl.Msg{beat(42, 0)}
		n.Machine = atClock(n.Machine, 34)
	})
	// The beat first, then that nothing else will arrive before 43.
	n = wantNodeSays(t, n, nodeWith(n, func(n *impl.Node) { n.Outbox = nil }), carries(beat(42, 0)), true)
	n = wantPromises(t, n, 43)
	wantSaysNothing(t, n)
	n = wantHeard(t, n, carries(answer(100, 1)), func(n *impl.Node) { n.Inbox = []impl.Msg{answer(100, 1)} })
	for clock := int64(35); clock <= 95; clock++ {
		n = wantStepsTo(t, n, func(n *impl.Node) { n.Machine = atClock(n.Machine, clock) })
	}
	wantNoStep(t, n, 1000)
	n = wantHeard(t, n, promise(106), func(n *impl.Node) { n.Safe = 106 })
	for clock := int64(96); clock <= 99; clock++ {
		n = wantStepsTo(t, n, func(n *impl.Node) { n.Machine = atClock(n.Machine, clock) })
	}
	n = wantStepsTo(t, n, func(n *impl.Node) {
		n.Machine.Serial, n.Inbox = leading(1, 7, 132), nil
		n.Machine = atClock(n.Machine, 100)
	})
	wantPromises(t, n, 109)
}

// TestAFullStepOfANode: it uses, sends and tells; what was in its lists stays ahead.
func TestAFullStepOfANode(t *testing.T) {
	n := standing()
	n.Machine.Serial, n.Machine.Pc, n.Machine.Mask = waiting(150, 1), 1, 0
	want := nodeWith(n, func(n *impl.Node) {
		n.Machine.Pc, n.Machine.Serial, n.Machine.Keys, n.Machine.Flags = 3, idle(45), 5, 6
		n.Machine = atClock(n.Machine, 503)
		n.Inbox = []impl.Msg{keys(900, 6)}
		n.Outbox = append(n.Outbox, answer(509, 1))
		n.Trace = append(n.Trace, wentOut(503, 11), byteAt(501, 45))
	})
	wantNodeStep(t, n, 501, want, true)
	// The next step would be at 503 and 5, past what was promised.
	wantNoStep(t, want, 600)
	want.Safe = 508
	wantNoStep(t, want, 600)
	want.Safe = 509
	wantNodeStep(t, want, 600, nodeWith(want, func(n *impl.Node) {
		n.Machine.Pc = 0
		n.Machine = atClock(n.Machine, 506)
	}), true)
}

// TestHowFarItMayGoByHand: Clock and MostCost must be less than Safe, and Clock less than until.
func TestHowFarItMayGoByHand(t *testing.T) {
	for _, c := range []struct {
		clock, safe, until int64
		want               bool
	}{
		{500, 504, 600, false}, {500, 505, 600, false}, {500, 506, 600, true}, {500, 507, 600, true},
		{500, 506, 499, false}, {500, 506, 500, false}, {500, 506, 501, true}, {500, 506, 502, true},
		{500, 505, 501, false}, {500, 505, 500, false}, {500, 506, -1, false}, {500, 506, 0, false}, {500, 0, 600, false}, {500, 500, 600, false},
		{0, 4, 1, false}, {0, 5, 1, false}, {0, 6, 1, true}, {0, 6, 0, false}, {0, 6, -1, false}, {0, 9, 1, true},
		{0, lastArrival, math.MinInt64, false}, {0, lastArrival, math.MaxInt64, true}, {500, 506, math.MaxInt64, true},
		// Past MaxUntil, too.
		{impl.MaxUntil, impl.MaxUntil + 6, impl.MaxUntil, false}, {impl.MaxUntil, impl.MaxUntil + 6, impl.MaxUntil + 1, true},
		{impl.MaxUntil + 5, impl.MaxUntil + 10, impl.MaxClock, false}, {impl.MaxUntil + 5, impl.MaxUntil + 11, impl.MaxClock, true},
	} {
		n := nodeOn(atClock(quiet(cNop, cHlt), c.clock), c.safe)
		n.Machine.Timer.Mode = 0
		wantMayStep(t, n, c.until, c.want)
		if !c.want {
			wantNoStep(t, n, c.until)
			continue
		}
		wantNodeStep(t, n, c.until, nodeWith(n, func(n *impl.Node) {
			n.Machine.Pc = 1
			n.Machine = atClock(n.Machine, c.clock+1)
		}), true)
	}
}

// costing: a machine whose next step is of that many cycles, at that clock.
func costing(cost, clock int64) impl.Machine {
	m := atClock(quiet([][]int64{{cNop}, {cNop}, {cLda, 9}, {cJmp, 40}, {cCal, 40}, {cNop}}[cost]...), clock)
	m.Mask, m.Enabled = 1, true
	if cost == 5 {
		m.Flags = 1
	}
	return m
}

// TestWhateverItCosts: how far it may go hangs on MostCost alone, and no step ends where it was promised, or behind that.
func TestWhateverItCosts(t *testing.T) {
	untils := append([]int64{-1, 0, impl.MaxUntil, impl.MaxUntil + 1, impl.MaxClock}, farNumbers...)
	for _, clock := range []int64{0, 1, 500, impl.MaxUntil, impl.MaxClock - 200} {
		for cost := int64(1); cost <= 5; cost++ {
			for safe := max(0, clock-3); safe <= clock+20; safe++ {
				n := nodeOn(costing(cost, clock), safe)
				for _, until := range append([]int64{clock - 2, clock - 1, clock, clock + 1, clock + 2, clock + cost, clock + 50}, untils...) {
					may := clock < until && clock+5 < safe
					wantMayStep(t, n, until, may)
					want, is := nodeStepByWords(n, until)
					got := wantNodeStep(t, n, until, want, is)
					if is != may || is && got.Machine.Clock != clock+cost || is && got.Machine.Clock >= safe {
						t.Fatalf("cost %d at %d, promised %d, until %d: %v, to %d", cost, clock, safe, until, is, got.Machine.Clock)
					}
				}
			}
		}
	}
}

// TestNodesWithoutAStep: StepOf is false where a step would end later than 100 ahead of MaxClock, though it may step.
func TestNodesWithoutAStep(t *testing.T) {
	for _, c := range []struct {
		cost, clock int64
		want        bool
	}{
		{1, lastEnd, false}, {1, lastEnd - 1, true}, {2, lastEnd - 1, false}, {2, lastEnd - 2, true}, {3, lastEnd - 2, false}, {3, lastEnd - 3, true},
		{4, lastEnd - 3, false}, {4, lastEnd - 4, true}, {5, lastEnd - 4, false}, {5, lastEnd - 5, true},
		{1, lastEnd + 1, false}, {5, lastEnd, false}, {1, impl.MaxClock - 1, false}, {1, impl.MaxClock, false}, {5, impl.MaxClock, false},
	} {
		n := nodeOn(costing(c.cost, c.clock), lastArrival)
		n.Inbox, n.Outbox, n.Trace = []impl.Msg{beat(c.clock, 1)}, []impl.Msg{keys(3, 3)}, []impl.Ev{wentOut(1, 2)}
		for _, until := range []int64{impl.MaxClock + 1, math.MaxInt64} {
			wantMayStep(t, n, until, true)
			want, is := nodeStepByWords(n, until)
			if is != c.want {
				t.Fatalf("cost %d at %d: %v", c.cost, c.clock, is)
			}
			wantNodeStep(t, n, until, want, is)
		}
	}
}

// TestFullOutboxes: what is sent goes behind the others up to MaxInbox; a step that would send more is none.
func TestFullOutboxes(t *testing.T) {
	for sends := range 4 {
		for _, size := range []int{0, 1, 196, 197, 198, 199, 200} {
			n := nodeOn(onCable(idle(9)), 600)
			n.Inbox = slices.Repeat([]impl.Msg{beat(501, 1)}, sends)
			n.Outbox = slices.Repeat([]impl.Msg{keys(900, 1)}, size)
			if size+sends > 200 {
				wantMayStep(t, n, 501, true)
				wantNoStep(t, n, 501)
				continue
			}
			wantNodeStep(t, n, 501, nodeWith(n, func(n *impl.Node) {
				n.Machine.Pc, n.Inbox = 40, nil
				n.Machine = atClock(n.Machine, 503)
				n.Outbox = append(n.Outbox, slices.Repeat([]impl.Msg{answer(509, 1)}, sends)...)
			}), true)
		}
	}
	// A whole inbox that is answered at once.
	n := nodeOn(onCable(idle(9)), 600)
	n.Inbox = slices.Repeat([]impl.Msg{beat(502, 1)}, 200)
	want, is := nodeStepByWords(n, 501)
	if !is || len(want.Outbox) != 200 || len(want.Inbox) != 0 {
		t.Fatalf("%v %+v", is, want)
	}
	wantNodeStep(t, n, 501, want, true)
	n.Outbox = []impl.Msg{keys(1, 1)}
	wantNoStep(t, n, 501)
	// Once something is said, there is room again.
	n.Inbox = n.Inbox[:1]
	n.Outbox = slices.Repeat([]impl.Msg{keys(1, 1)}, 200)
	wantNoStep(t, n, 501)
	n = wantNodeSays(t, n, nodeWith(n, func(n *impl.Node) { n.Outbox = n.Outbox[1:] }), carries(keys(1, 1)), true)
	want, is = nodeStepByWords(n, 501)
	if !is || len(want.Outbox) != 200 {
		t.Fatalf("%v %+v", is, want)
	}
	wantNodeStep(t, n, 501, want, true)
}

// TestFullTracesOfNodes: Evs go behind the others up to MaxTrace; a step that would tell more is none.
func TestFullTracesOfNodes(t *testing.T) {
	for tells := range 3 {
		for _, size := range []int{0, 1, 2997, 2998, 2999, 3000} {
			n := nodeOn(quiet([][]int64{{cJmp, 40}, {cPut, 249}, {cPut, 249}}[tells]...), 600)
			n.Machine.Serial = waiting(150, 1)
			if tells == 2 {
				n.Inbox = []impl.Msg{beat(502, 1)}
			}
			n.Trace = slices.Repeat([]impl.Ev{calledBy(3, 1)}, size)
			want, is := nodeStepByWords(n, 501)
			if is != (size+tells <= 3000) || is && len(want.Trace) != size+tells {
				t.Fatalf("%d behind %d: %v %+v", tells, size, is, want)
			}
			wantMayStep(t, n, 501, true)
			wantNodeStep(t, n, 501, want, is)
		}
	}
}

// TestOutboxAheadOfAPromise: whatever could be promised, what is in Outbox is said first, in its order.
func TestOutboxAheadOfAPromise(t *testing.T) {
	outbox := []impl.Msg{answer(530, 1), beat(508, 0), beat(508, 0), keys(0, 255), answer(lastArrival, 0), beat(509, 1)}
	for _, told := range []int64{0, 1, 508, 509, 510, impl.MaxClock, lastArrival} {
		n := nodeOn(quiet(cNop), 20)
		n.Told, n.Outbox, n.Inbox, n.Trace = told, slices.Clone(outbox), []impl.Msg{keys(7, 7)}, []impl.Ev{wentOut(1, 1)}
		for i, m := range outbox {
			n = wantNodeSays(t, n, nodeWith(n, func(n *impl.Node) { n.Outbox = outbox[i+1:] }), carries(m), true)
		}
		if told < 509 {
			n = wantPromises(t, n, 509)
		}
		wantSaysNothing(t, n)
	}
	for _, size := range []int{1, 2, 199, 200} {
		n := nodeOn(quiet(cNop), 20)
		n.Told = 0
		for i := range int64(size) {
			n.Outbox = append(n.Outbox, keys(i, i))
		}
		for i := range int64(size) {
			n = wantNodeSays(t, n, nodeWith(n, func(n *impl.Node) { n.Outbox = n.Outbox[1:] }), carries(keys(i, i)), true)
		}
		wantSaysNothing(t, wantPromises(t, n, 509))
	}
	// Each Msg that is right can be said.
	for _, m := range rightMsgs() {
		n := nodeOn(quiet(cNop), 20)
		n.Outbox = []impl.Msg{m}
		wantNodeSays(t, n, nodeOn(quiet(cNop), 20), carries(m), true)
	}
}

// TestWhatMayBePromised: more than was told, and at each Clock there is a right Note for it.
func TestWhatMayBePromised(t *testing.T) {
	for _, clock := range []int64{0, 1, 500, impl.MaxUntil, lastEnd, impl.MaxClock - 1, impl.MaxClock} {
		for _, told := range []int64{0, clock, clock + 7, clock + 8, clock + 9, clock + 10, clock + 50, lastArrival} {
			for _, safe := range []int64{0, clock, clock + 9, lastArrival} {
				n := nodeOn(atClock(quiet(cNop), clock), safe)
				n.Told, n.Inbox = told, []impl.Msg{keys(clock, 1)}
				if told >= clock+9 {
					wantSaysNothing(t, n)
					continue
				}
				n = wantPromises(t, n, clock+9)
				wantNodeOk(t, n, true)
				wantSaysNothing(t, n)
			}
		}
	}
	// However often it goes on in between: once for each step.
	n := nodeOn(quiet(cHlt), lastArrival)
	for clock := int64(501); clock < 530; clock++ {
		n, _ = impl.NodeStep(n, 1000)
		n = wantPromises(t, n, clock+9)
		wantSaysNothing(t, n)
	}
}

func TestPromisesHeard(t *testing.T) {
	for _, safe := range []int64{0, 1, 9, 506, impl.MaxClock, lastArrival - 1, lastArrival} {
		for _, at := range []int64{0, 1, 8, 9, 10, 505, 506, 507, impl.MaxClock, lastArrival - 1, lastArrival, safe - 1, safe, safe + 1} {
			n := standing()
			n.Safe = safe
			if at < 0 || at > lastArrival {
				wantNodeHears(t, n, promise(at), nodeClone(n), false)
				continue
			}
			n = wantHeard(t, n, promise(at), func(n *impl.Node) { n.Safe = max(safe, at) })
			wantHeard(t, n, promise(at), noChange)
		}
	}
}

func TestMsgsHeard(t *testing.T) {
	n := nodeOn(quiet(cNop), 506)
	n.Outbox, n.Trace = []impl.Msg{keys(1, 1)}, []impl.Ev{wentOut(1, 1)}
	for _, m := range rightMsgs() {
		wantHeard(t, n, carries(m), func(n *impl.Node) { n.Inbox = []impl.Msg{m} })
	}
	n.Inbox = []impl.Msg{beat(5, 0), answer(5, 1), keys(5, 8), keys(5, 7), beat(9, 1)}
	for _, x := range []struct {
		m    impl.Msg
		want int
	}{
		{keys(4, 0), 0}, {beat(4, 1), 0}, {beat(5, 1), 1}, {beat(5, 0), 1}, {answer(5, 0), 2}, {keys(5, 0), 4}, {keys(5, 255), 4},
		{beat(6, 0), 4}, {keys(8, 0), 4}, {beat(9, 0), 5}, {answer(9, 0), 5}, {keys(lastArrival, 0), 5},
	} {
		wantHeard(t, n, carries(x.m), func(n *impl.Node) { n.Inbox = slices.Insert(n.Inbox, x.want, x.m) })
	}
}

// TestFullInboxesOfNodes: one Msg goes in, and then none; a promise is heard all the same.
func TestFullInboxesOfNodes(t *testing.T) {
	for _, size := range []int{198, 199, 200} {
		for _, m := range []impl.Msg{beat(7, 1), keys(7, 2), answer(9, 0), keys(lastArrival, 3)} {
			n := nodeOn(quiet(cNop), 506)
			n.Inbox = slices.Repeat([]impl.Msg{keys(7, 1)}, size)
			wantNodeOk(t, n, true)
			wantHeard(t, n, promise(507), func(n *impl.Node) { n.Safe = 507 })
			if size == 200 {
				wantNodeHears(t, n, carries(m), nodeClone(n), false)
				continue
			}
			n = wantHeard(t, n, carries(m), func(n *impl.Node) { n.Inbox = sortedWith(n.Inbox, m) })
			if size == 199 {
				wantNodeHears(t, n, carries(m), nodeClone(n), false)
			}
		}
	}
}

func TestWrongNotesHeard(t *testing.T) {
	full := standing()
	full.Inbox = slices.Repeat([]impl.Msg{keys(7, 1)}, 200)
	for _, n := range []impl.Node{standing(), full, wantNewNode(t, romFor(5), nil)} {
		for _, note := range wrongNotes() {
			wantNodeHears(t, n, note, nodeClone(n), false)
		}
	}
}

// TestRightNodesAtTheEdges: each of them steps, says and hears as the document's words tell.
func TestRightNodesAtTheEdges(t *testing.T) {
	list := []impl.Node{standing(), wantNewNode(t, romFor(2), nil)}
	with := func(put func(*impl.Node)) { list = append(list, nodeWith(standing(), put)) }
	for _, n := range []int64{0, 1, 9, 500, impl.MaxClock - 1, impl.MaxClock, impl.MaxClock + 1, lastArrival - 1, lastArrival} {
		with(func(x *impl.Node) { x.Safe = n })
		with(func(x *impl.Node) { x.Told = n })
		with(func(x *impl.Node) { x.Safe, x.Told = n, lastArrival-n })
	}
	for _, size := range []int{0, 1, 199, 200} {
		with(func(x *impl.Node) { x.Inbox = slices.Repeat([]impl.Msg{keys(7, 1)}, size) })
		with(func(x *impl.Node) { x.Outbox = slices.Repeat([]impl.Msg{keys(7, 1)}, size) })
	}
	for _, size := range []int{0, 1, 2999, 3000} {
		with(func(x *impl.Node) { x.Trace = slices.Repeat([]impl.Ev{wentOut(7, 1)}, size) })
	}
	// An Outbox has no order but its own, and any Ev may be in a Trace.
	for _, wrong := range wrongInboxes()[:9] {
		with(func(x *impl.Node) { x.Outbox = wrong })
	}
	with(func(x *impl.Node) { x.Trace = []impl.Ev{{At: -5, Kind: 77, Value: -1}, {At: impl.MaxClock * 2}, {}} })
	for _, m := range rightMsgs() {
		with(func(x *impl.Node) { x.Outbox = []impl.Msg{m} })
	}
	for _, m := range sampleMachines(t) {
		with(func(x *impl.Node) { x.Machine = m })
	}
	for _, n := range list {
		wantNodeOk(t, n, true)
		for _, until := range []int64{-1, 0, n.Machine.Clock, n.Machine.Clock + 1, math.MaxInt64} {
			want, is := nodeStepByWords(n, until)
			wantMayStep(t, n, until, mayStepByWords(n, until))
			wantNodeStep(t, n, until, want, is)
		}
		said, note, is := nodeSaysByWords(n)
		wantNodeSays(t, n, said, note, is)
		for _, note := range append([]impl.Note{promise(n.Safe), {}}, someNotes(5)...) {
			heard, is := nodeHearsByWords(n, note)
			wantNodeHears(t, n, note, heard, is)
		}
	}
}

// wrongPromises: neither Safe nor Told may be one of these.
var wrongPromises = append([]int64{-1, -2, -100, lastArrival + 1, lastArrival + 2}, farNumbers...)

func TestWrongNodes(t *testing.T) {
	wantNodeOk(t, standing(), true)
	wantWrongNode(t, impl.Node{})
	with := func(put func(*impl.Node)) {
		t.Helper()
		wantWrongNode(t, nodeWith(standing(), put))
		wantWrongNode(t, nodeWith(wantNewNode(t, romFor(5), nil), put))
	}
	for _, m := range wrongMachines() {
		with(func(n *impl.Node) { n.Machine = m })
	}
	for _, inbox := range wrongInboxes() {
		with(func(n *impl.Node) { n.Inbox = inbox })
	}
	for _, size := range []int{3001, 3002, 6000} {
		with(func(n *impl.Node) { n.Trace = make([]impl.Ev, size) })
	}
	for _, at := range wrongPromises {
		with(func(n *impl.Node) { n.Safe = at })
		with(func(n *impl.Node) { n.Told = at })
	}
}

// TestWrongOutboxes: a wrong Msg at each place, or too many.
func TestWrongOutboxes(t *testing.T) {
	with := func(outbox []impl.Msg) {
		t.Helper()
		wantWrongNode(t, nodeWith(standing(), func(n *impl.Node) { n.Outbox = outbox }))
	}
	for _, wrong := range wrongMsgs() {
		with([]impl.Msg{wrong})
		with([]impl.Msg{wrong, keys(7, 1)})
		with([]impl.Msg{keys(9, 1), wrong, beat(8, 1)})
		with(append(slices.Repeat([]impl.Msg{keys(7, 1)}, 199), wrong))
	}
	for _, size := range []int{201, 202, 1000} {
		with(slices.Repeat([]impl.Msg{keys(7, 1)}, size))
	}
	// What lies in the spare room behind it is no part of it.
	n := standing()
	n.Outbox = append(n.Outbox, impl.Msg{})[:len(n.Outbox)]
	wantNodeOk(t, n, true)
}

// watched: a node, and what came of it so far.
type watched struct {
	node       impl.Node
	sent, said []impl.Msg
	told       int64
	steps      int
}

func watch(n impl.Node) *watched { return &watched{node: n, told: n.Told} }

// step: where there is one it ends ahead of what was promised, and sends nothing that arrives before what was told.
func (w *watched) step(t *testing.T, until int64) bool {
	t.Helper()
	before := w.node
	want, is := nodeStepByWords(before, until)
	wantMayStep(t, before, until, mayStepByWords(before, until))
	w.node = wantNodeStep(t, before, until, want, is)
	if !is {
		return false
	}
	if before.Machine.Clock+5 >= before.Safe || w.node.Machine.Clock >= before.Safe || before.Machine.Clock >= until {
		t.Fatalf("it went too far: %+v, until %d", before, until)
	}
	w.steps++
	sent := w.node.Outbox[len(before.Outbox):]
	for _, m := range sent {
		if m.At < w.told {
			t.Fatalf("%v is sent, though %d was promised", m, w.told)
		}
	}
	w.sent = append(w.sent, sent...)
	return true
}

// say: what was sent, in its order, none twice and none lost; a promise only where all of it is said, and more than was told.
func (w *watched) say(t *testing.T) (impl.Note, bool) {
	t.Helper()
	want, wantNote, is := nodeSaysByWords(w.node)
	w.node = wantNodeSays(t, w.node, want, wantNote, is)
	switch {
	case is && wantNote.Promise:
		if wantNote.At <= w.told || !slices.Equal(w.said, w.sent) {
			t.Fatalf("%d is promised, though %d was; sent %v, said %v", wantNote.At, w.told, w.sent, w.said)
		}
		w.told = wantNote.At
	case is:
		w.said = append(w.said, wantNote.Msg)
		if wantNote.Msg.At < w.told || !slices.Equal(w.said, w.sent[:len(w.said)]) {
			t.Fatalf("%v is said, though %d was promised; sent %v, said %v", wantNote.Msg, w.told, w.sent, w.said)
		}
	}
	if w.node.Told != w.told {
		t.Fatalf("Told is %d: %d was", w.node.Told, w.told)
	}
	return wantNote, is
}

// hear: it is not for before what was promised, so nothing arrives in the past.
func (w *watched) hear(t *testing.T, note impl.Note) bool {
	t.Helper()
	if !note.Promise && (note.Msg.At < w.node.Safe || note.Msg.At <= w.node.Machine.Clock) {
		t.Fatalf("%v arrives at %+v", note, w.node)
	}
	want, is := nodeHearsByWords(w.node, note)
	safe := w.node.Safe
	w.node = wantNodeHears(t, w.node, note, want, is)
	if w.node.Safe < safe {
		t.Fatalf("Safe goes back from %d to %d", safe, w.node.Safe)
	}
	return is
}

// sayAll: till there is nothing more to say; the promise is the last thing.
func (w *watched) sayAll(t *testing.T) {
	t.Helper()
	for is := true; is; {
		_, is = w.say(t)
	}
	if !slices.Equal(w.said, w.sent) || len(w.node.Outbox) != 0 || w.told < w.node.Machine.Clock+9 {
		t.Fatalf("sent %v, said %v, told %d: %+v", w.sent, w.said, w.told, w.node)
	}
}

// TestANodeInWhateverTurn: against a world that keeps its promises, with more of one act or of another one.
func TestANodeInWhateverTurn(t *testing.T) {
	d := dice(1597334677)
	said, heard := map[int64]int{}, map[int64]int{}
	for run := range 60 {
		order := 128 + d.below(2)
		w := watch(wantNewNode(t, d.pairRom(t, order), d.pairKeys()))
		known := int64(9)
		for range 500 {
			switch act := d.below(10); {
			case act < 4+int64(run%3):
				w.step(t, 100000)
			case act < 7:
				if note, is := w.say(t); is {
					said[note.Msg.Kind]++
				}
			case act == 7 && len(w.node.Inbox) < 30:
				m := d.msg(known + d.below(25))
				w.hear(t, carries(m))
				heard[m.Kind]++
			case act == 8:
				// One that tells nothing new.
				w.hear(t, promise(d.below(known+1)))
			default:
				known += d.below(30)
				w.hear(t, promise(known))
				heard[0]++
			}
			wantNodeOk(t, w.node, true)
		}
		w.sayAll(t)
		if w.steps < 50 {
			t.Fatalf("run %d: only %d steps", run, w.steps)
		}
	}
	for kind := int64(0); kind <= 3; kind++ {
		if heard[kind] < 500 || kind < 3 && said[kind] < 50 {
			t.Fatalf("too few: said %v, heard %v", said, heard)
		}
	}
}

// couple: two nodes, and what is on its way from each of them.
type couple struct {
	sides [2]*watched
	ways  [2][]impl.Note
	room  int
}

// act: whether it could be done.
func (c *couple) act(t *testing.T, side, act, until int64) bool {
	t.Helper()
	w, from := c.sides[side], &c.ways[1-side]
	switch {
	case act == 0:
		return w.step(t, until)
	case act == 1 && len(c.ways[side]) < c.room:
		note, is := w.say(t)
		if is {
			c.ways[side] = append(c.ways[side], note)
		}
		return is
	case act == 2 && len(*from) > 0 && w.hear(t, (*from)[0]):
		*from = (*from)[1:]
		return true
	}
	return false
}

func (c *couple) ended(until int64) bool {
	return c.sides[0].node.Machine.Clock >= until && c.sides[1].node.Machine.Clock >= until
}

// coupleOf: both nodes as new ones of what the pair begins with.
func coupleOf(t *testing.T, p impl.Pair, room int) *couple {
	t.Helper()
	c := &couple{room: room}
	for side := range c.sides {
		c.sides[side] = watch(wantNewNode(t, p.Machines[side].Rom, p.Inboxes[side]))
	}
	return c
}

// TestTwoNodesInAnyOrder: each does what it would have done step by step; where nothing that is picked can be done, something else can.
func TestTwoNodesInAnyOrder(t *testing.T) {
	d := dice(2654435769)
	evs := map[int64]int{}
	for run := range 36 {
		p := d.newPair(t)
		until := 300 + d.below(200)
		want := pairToByWords(p, until)
		c := coupleOf(t, p, 1+run%4)
		// Now one side is asked more often, now the other one, or both alike.
		favour := int64(run % 3)
		for acts := 0; !c.ended(until); acts++ {
			side := min(d.below(2+2*favour), 1)
			if run%2 == 0 {
				side = 1 - side
			}
			c.act(t, side, d.below(3), until)
			if acts > 100000 {
				t.Fatalf("run %d comes to no end: %+v", run, c)
			}
		}
		for side, w := range c.sides {
			if !likeMachines(w.node.Machine, want.Machines[side]) || !slices.Equal(w.node.Trace, want.Traces[side]) {
				t.Fatalf("run %d, side %d:\n got %+v %+v\nwant %+v %+v", run, side, w.node.Machine, w.node.Trace, want.Machines[side], want.Traces[side])
			}
			w.sayAll(t)
			for _, ev := range w.node.Trace {
				evs[ev.Kind]++
			}
		}
	}
	for kind := int64(1); kind <= 3; kind++ {
		if evs[kind] < 30 {
			t.Fatalf("too few Evs: %v", evs)
		}
	}
}

// TestNodesOneAfterTheOther: as far as it goes, then all that is to be said, then the other one.
func TestNodesOneAfterTheOther(t *testing.T) {
	const until = 400
	for leads := range 2 {
		roms := [][]int64{looping(t, 200, 129), looping(t, 7, 128)}
		p := wantNewPair(t, roms[leads], roms[1-leads], nil, nil)
		c := coupleOf(t, p, 300)
		for turn := int64(0); !c.ended(until); turn++ {
			for _, act := range []int64{2, 0, 1} {
				for c.act(t, turn%2, act, until) {
				}
			}
			if turn > 10*until {
				t.Fatalf("side %d leads: it comes to no end: %+v", leads, c)
			}
		}
		a, b := c.sides[leads].node, c.sides[1-leads].node
		if !slices.Equal(a.Trace, []impl.Ev{byteAt(391, 7)}) || !slices.Equal(b.Trace, []impl.Ev{byteAt(383, 200)}) || a.Machine.Serial != idle(7) || b.Machine.Serial != idle(200) {
			t.Fatalf("%+v\n%+v", a, b)
		}
	}
}

// TestANodeLeftAlone: without a promise it stands, at the latest Clock that 9 lets it have.
func TestANodeLeftAlone(t *testing.T) {
	for _, c := range []struct {
		code []int64
		want int64
	}{{[]int64{cHlt}, 4}, {[]int64{cNop, cNop, cNop, cNop, cNop}, 4}, {[]int64{cJmp, 0}, 6}, {[]int64{cCal, 0}, 4}, {[]int64{cLda, 1, cLda, 1, cLda, 1}, 4}, {[]int64{cNop, cLda, 3, cCal, 0}, 7}} {
		w := watch(wantNewNode(t, romOf(t, c.code...), nil))
		for w.step(t, 1000) {
		}
		if w.node.Machine.Clock != c.want {
			t.Fatalf("%v stands at %d", c.code, w.node.Machine.Clock)
		}
		w.sayAll(t)
		wantNoStep(t, w.node, 1000)
	}
}

var evMark = impl.Ev{At: -9, Kind: -9, Value: -9}

// nodeWithRoom: the node with spare room behind each of its lists, and the whole of that memory.
func nodeWithRoom(n impl.Node) (impl.Node, impl.Node) {
	given, whole := n, n
	given.Machine.Rom, whole.Machine.Rom = withRoom(n.Machine.Rom)
	given.Machine.Ram, whole.Machine.Ram = withRoom(n.Machine.Ram)
	given.Inbox, whole.Inbox = msgsWithRoom(n.Inbox)
	given.Outbox, whole.Outbox = msgsWithRoom(n.Outbox)
	whole.Trace = slices.Concat(n.Trace, slices.Repeat([]impl.Ev{{At: -7}}, 8))
	given.Trace = whole.Trace[:len(n.Trace)]
	return given, whole
}

// wantNodeApart: no two lists of it share any memory; it is spent by it.
func wantNodeApart(t *testing.T, n impl.Node) {
	t.Helper()
	wantApart(t, [][]int64{n.Machine.Rom, n.Machine.Ram}, -5)
	wantApart(t, [][]impl.Msg{n.Inbox, n.Outbox}, impl.Msg{At: -9, Kind: -9, Value: -9})
	wantApart(t, [][]impl.Ev{n.Trace}, evMark)
}

func spoilNode(n impl.Node) {
	fill(n.Machine.Rom, -9)
	fill(n.Machine.Ram, -9)
	spoil(n.Inbox)
	spoil(n.Outbox)
	for i := range n.Trace {
		n.Trace[i] = evMark
	}
}

// nodesToShare: what may step, what may not, what has no room and what is not right.
func nodesToShare(t *testing.T) []impl.Node {
	t.Helper()
	list := []impl.Node{standing(), nodeOn(quiet(cPut, 249), 600), nodeOn(quiet(cPut, 249), 505), wantNewNode(t, romFor(64), []impl.Msg{keys(5, 5), keys(6, 6)})}
	with := func(put func(*impl.Node)) { list = append(list, nodeWith(standing(), put)) }
	for _, serial := range []impl.Serial{waiting(44, 1), leading(44, 3, 501), asking(9, 1)} {
		with(func(n *impl.Node) { n.Machine.Serial = serial })
	}
	with(func(n *impl.Node) { n.Machine.Flags, n.Machine.Mask = 7, 7 })
	with(func(n *impl.Node) { n.Machine, n.Safe = atClock(n.Machine, impl.MaxClock), lastArrival })
	with(func(n *impl.Node) { n.Outbox = slices.Repeat(n.Outbox, 100) })
	with(func(n *impl.Node) { n.Inbox = slices.Repeat([]impl.Msg{beat(501, 1)}, 200) })
	with(func(n *impl.Node) { n.Inbox, n.Outbox = slices.Repeat([]impl.Msg{beat(501, 1)}, 200), nil })
	with(func(n *impl.Node) { n.Trace, n.Machine.Pc = make([]impl.Ev, 3000), 1 })
	with(func(n *impl.Node) { n.Outbox, n.Told = nil, 0 })
	with(func(n *impl.Node) { n.Outbox, n.Told = nil, 509 })
	with(func(n *impl.Node) { n.Machine.Keys = 256 })
	with(func(n *impl.Node) { n.Told = -1 })
	with(func(n *impl.Node) { n.Outbox[1].Value = 2 })
	return append(list, impl.Node{})
}

// nodeAnswers: what each function makes of a node.
func nodeAnswers() []func(impl.Node) impl.Node {
	list := []func(impl.Node) impl.Node{func(n impl.Node) impl.Node {
		after, _, _ := impl.NodeSays(n)
		return after
	}}
	for _, until := range []int64{-1, 500, 501, 2 * impl.MaxClock} {
		list = append(list, func(n impl.Node) impl.Node {
			after, _ := impl.NodeStep(n, until)
			return after
		})
	}
	for _, note := range []impl.Note{promise(3), promise(700), carries(beat(2, 1)), carries(keys(501, 44)), carries(keys(5000, 44)), {}, promise(-1)} {
		list = append(list, func(n impl.Node) impl.Node {
			after, _ := impl.NodeHears(n, note)
			return after
		})
	}
	return list
}

func TestNodesShareNothing(t *testing.T) {
	for i, n := range nodesToShare(t) {
		for k, call := range nodeAnswers() {
			given, whole := nodeWithRoom(n)
			before := nodeClone(whole)
			first, second := call(given), call(given)
			want := nodeClone(second)
			if !likeNodes(whole, before) || !likeNodes(given, n) {
				t.Fatalf("call %d of node %d: what was given is changed", k, i)
			}
			wantNodeApart(t, first)
			if !likeNodes(whole, before) || !likeNodes(second, want) {
				t.Fatalf("call %d of node %d: answers share memory, or one and its argument", k, i)
			}
			spoilNode(whole)
			if !likeNodes(second, want) {
				t.Fatalf("call %d of node %d: the answer shares memory with its argument", k, i)
			}
		}
	}
}

// TestRoomBehindANodeTellsNothing: what a call answers hangs on the lists alone.
func TestRoomBehindANodeTellsNothing(t *testing.T) {
	for i, n := range nodesToShare(t) {
		given, whole := nodeWithRoom(n)
		before := nodeClone(whole)
		for _, until := range []int64{-1, 500, 501, 2 * impl.MaxClock} {
			if impl.MayStep(given, until) != impl.MayStep(n, until) || impl.NodeOk(given) != impl.NodeOk(n) {
				t.Fatalf("node %d is another one with room behind it", i)
			}
		}
		for k, call := range nodeAnswers() {
			if got, want := call(given), call(n); !likeNodes(got, want) {
				t.Fatalf("call %d of node %d: %+v with room behind it, else %+v", k, i, got, want)
			}
		}
		if !likeNodes(whole, before) {
			t.Fatalf("node %d is changed", i)
		}
	}
}

// TestNodesOfOneMemory: lists that lie in the same memory, or one in the spare room of another one; the answer's do not.
func TestNodesOfOneMemory(t *testing.T) {
	same := nodeOn(filledMachine(64), 506)
	same.Machine.Ram = same.Machine.Rom
	same.Inbox = []impl.Msg{beat(501, 1), keys(501, 5), keys(900, 6)}
	same.Outbox = same.Inbox
	behind := standing()
	msgs := []impl.Msg{beat(501, 1), keys(501, 5), answer(3, 1), keys(2, 2), beat(1, 1)}
	behind.Inbox, behind.Outbox = msgs[:2], msgs[2:]
	for _, n := range []impl.Node{same, behind} {
		before := nodeClone(n)
		for k, call := range nodeAnswers() {
			want := call(nodeClone(n))
			got := call(n)
			if !likeNodes(got, want) || !likeNodes(n, before) {
				t.Fatalf("call %d: got %+v, want %+v", k, got, want)
			}
			wantNodeApart(t, got)
			if !likeNodes(n, before) {
				t.Fatalf("call %d: the answer shares memory with its argument", k)
			}
		}
	}
}

func TestNewNodesShareNothing(t *testing.T) {
	for _, list := range [][]impl.Msg{{}, {keys(3, 5)}, {keys(3, 5), keys(3, 4), keys(9, 9)}, slices.Repeat([]impl.Msg{keys(7, 1)}, 200)} {
		rom, wholeRom := withRoom(romFor(40))
		given, wholeKeys := msgsWithRoom(list)
		beforeRom, beforeKeys := slices.Clone(wholeRom), slices.Clone(wholeKeys)
		first, second := wantNewNode(t, rom, given), wantNewNode(t, rom, given)
		want := nodeClone(second)
		wantNodeApart(t, first)
		if !slices.Equal(wholeRom, beforeRom) || !slices.Equal(wholeKeys, beforeKeys) || !likeNodes(second, want) {
			t.Fatalf("NewNode with %v: answers share memory, or what was given is changed", list)
		}
		fill(wholeRom, -9)
		spoil(wholeKeys)
		if !likeNodes(second, want) {
			t.Fatalf("NewNode with %v: the answer shares memory with its argument", list)
		}
	}
}

// TestGoingOnWithANodeChangesNothingBefore: two ways from where another answer ended leave that one, and each other, as they were.
func TestGoingOnWithANodeChangesNothingBefore(t *testing.T) {
	n := standing()
	n.Safe = 5000
	for range 40 {
		for _, call := range nodeAnswers() {
			before := nodeClone(n)
			one := call(n)
			kept := nodeClone(one)
			for _, other := range nodeAnswers() {
				wantNodeApart(t, other(n))
			}
			if !likeNodes(n, before) || !likeNodes(one, kept) {
				t.Fatalf("what went before is changed: %+v, %+v", n, one)
			}
		}
		n, _ = impl.NodeStep(n, 1000)
	}
}
