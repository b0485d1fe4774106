package tests

import (
	"math"
	"slices"
	"sort"
	"testing"

	"loop.example/g00741/impl"
)

// lastArrival: the last time at which a Msg may be.
const lastArrival = 1000000100

// lastEnd: the last time at which a step may end.
const lastEnd = 999999900

func beat(at, bit int64) impl.Msg { return impl.Msg{At: at, Kind: 1, Value: bit} }

func answer(at, bit int64) impl.Msg { return impl.Msg{At: at, Kind: 2, Value: bit} }

func keys(at, n int64) impl.Msg { return impl.Msg{At: at, Kind: 3, Value: n} }

func wentOut(at, n int64) impl.Ev { return impl.Ev{At: at, Kind: 1, Value: n} }

func calledBy(at, i int64) impl.Ev { return impl.Ev{At: at, Kind: 2, Value: i} }

func byteAt(at, data int64) impl.Ev { return impl.Ev{At: at, Kind: 3, Value: data} }

func likeSteps(a, b impl.Step) bool {
	return likeMachines(a.Machine, b.Machine) && slices.Equal(a.Out, b.Out) && slices.Equal(a.Evs, b.Evs) && a.Used == b.Used
}

// wrongMsgs: right ones but for one field.
func wrongMsgs() []impl.Msg {
	var list []impl.Msg
	with := func(right impl.Msg, put func(*impl.Msg, int64), near ...int64) {
		for _, n := range append(near, farNumbers...) {
			put(&right, n)
			list = append(list, right)
		}
	}
	for _, right := range []impl.Msg{beat(7, 1), answer(7, 0), keys(7, 1)} {
		with(right, func(m *impl.Msg, n int64) { m.At = n }, -1, -100, lastArrival+1, lastArrival+2)
		with(right, func(m *impl.Msg, n int64) { m.Kind = n }, -1, 0, 4, 5, 257)
	}
	bits := func(m *impl.Msg, n int64) { m.Value = n }
	with(beat(7, 1), bits, -1, 2, 3, 128, 255, 256)
	with(answer(7, 1), bits, -1, 2, 3, 128, 255, 256)
	with(keys(7, 1), bits, -1, 256, 257, -255)
	return append(list, impl.Msg{}, impl.Msg{Kind: 4}, impl.Msg{At: 7, Value: 1})
}

func rightMsgs() []impl.Msg {
	var list []impl.Msg
	for _, at := range []int64{0, 1, 500, impl.MaxClock, impl.MaxClock + 1, lastArrival - 1, lastArrival} {
		list = append(list, beat(at, 0), beat(at, 1), answer(at, 0), answer(at, 1))
		for _, n := range edgeBytes {
			list = append(list, keys(at, n))
		}
	}
	return list
}

// wrongInboxes: one Msg that is not right among others, two in the wrong order, one too many.
func wrongInboxes() [][]impl.Msg {
	list := [][]impl.Msg{
		{keys(8, 1), keys(7, 1)}, {beat(8, 1), keys(7, 1)}, {answer(8, 1), answer(7, 1)},
		{answer(7, 1), beat(7, 1)}, {keys(7, 1), beat(7, 1)}, {keys(7, 1), answer(7, 1)},
		{beat(1, 0), keys(9, 1), beat(9, 1), keys(10, 0)}, {beat(1, 0), beat(2, 0), beat(3, 0), beat(0, 0)}, {keys(5, 5), beat(4, 1), beat(6, 1)},
		slices.Repeat([]impl.Msg{keys(7, 1)}, 201), slices.Repeat([]impl.Msg{keys(7, 1)}, 1000),
	}
	for _, wrong := range wrongMsgs() {
		list = append(list, []impl.Msg{wrong}, []impl.Msg{wrong, keys(lastArrival, 1)}, []impl.Msg{beat(0, 0), wrong}, []impl.Msg{beat(7, 0), wrong, keys(7, 9)})
	}
	return list
}

func wantInboxOk(t *testing.T, inbox []impl.Msg, want bool) {
	t.Helper()
	before := slices.Clone(inbox)
	if impl.InboxOk(inbox) != want {
		t.Fatalf("InboxOk of %v: want %v", inbox, want)
	}
	if !slices.Equal(inbox, before) {
		t.Fatalf("InboxOk of %v changes it", before)
	}
}

func wantInboxWith(t *testing.T, inbox []impl.Msg, m impl.Msg, want []impl.Msg, wantIs bool) []impl.Msg {
	t.Helper()
	before := slices.Clone(inbox)
	got, is := impl.InboxWith(inbox, m)
	if !slices.Equal(got, want) || is != wantIs {
		t.Fatalf("InboxWith of %v, %v: got %v %v, want %v %v", inbox, m, got, is, want, wantIs)
	}
	if !slices.Equal(inbox, before) {
		t.Fatalf("InboxWith of %v, %v: its argument is changed to %v", before, m, inbox)
	}
	return got
}

// sortedWith: behind all others, then sorted so that those which are alike stay as they lie.
func sortedWith(inbox []impl.Msg, m impl.Msg) []impl.Msg {
	list := append(slices.Clone(inbox), m)
	sort.SliceStable(list, func(i, k int) bool {
		if list[i].At != list[k].At {
			return list[i].At < list[k].At
		}
		return list[i].Kind < list[k].Kind
	})
	return list
}

func TestStepNumbers(t *testing.T) {
	if impl.MaxInbox != 200 || impl.IrqCost != 5 || impl.Delay != 8 {
		t.Fatalf("MaxInbox %d, IrqCost %d, Delay %d", impl.MaxInbox, impl.IrqCost, impl.Delay)
	}
	if impl.MsBeat != 1 || impl.MsAnswer != 2 || impl.MsKeys != 3 {
		t.Fatalf("Kinds of Msgs: %d %d %d", impl.MsBeat, impl.MsAnswer, impl.MsKeys)
	}
	if impl.EvOut != 1 || impl.EvIrq != 2 || impl.EvByte != 3 {
		t.Fatalf("Kinds of Evs: %d %d %d", impl.EvOut, impl.EvIrq, impl.EvByte)
	}
	if impl.MostCost() != 5 {
		t.Fatalf("MostCost %d", impl.MostCost())
	}
	for code, row := range opRows {
		if row.cost > impl.MostCost() {
			t.Fatalf("code %d costs more than MostCost", code)
		}
	}
}

func TestRightAndWrongMsgs(t *testing.T) {
	wantInboxOk(t, nil, true)
	wantInboxOk(t, []impl.Msg{}, true)
	some := []impl.Msg{beat(5, 1), keys(5, 9)}
	for _, m := range rightMsgs() {
		wantInboxOk(t, []impl.Msg{m}, true)
		wantInboxOk(t, []impl.Msg{m, m, m}, true)
		wantInboxWith(t, nil, m, []impl.Msg{m}, true)
		wantInboxWith(t, some, m, sortedWith(some, m), true)
	}
	for _, m := range wrongMsgs() {
		wantInboxOk(t, []impl.Msg{m}, false)
		wantInboxWith(t, nil, m, nil, false)
		wantInboxWith(t, some, m, some, false)
	}
}

// TestEveryKindWithEveryValue: the document's words, number by number.
func TestEveryKindWithEveryValue(t *testing.T) {
	for kind := int64(-2); kind <= 6; kind++ {
		for n := int64(-300); n <= 600; n++ {
			want := kind == 3 && n >= 0 && n <= 255 || (kind == 1 || kind == 2) && (n == 0 || n == 1)
			wantInboxOk(t, []impl.Msg{{At: 3, Kind: kind, Value: n}}, want)
		}
	}
}

func TestOrderOfInboxes(t *testing.T) {
	for _, c := range []struct {
		inbox []impl.Msg
		want  bool
	}{
		{[]impl.Msg{keys(6, 1), beat(7, 1)}, true}, {[]impl.Msg{keys(7, 1), beat(6, 1)}, false},
		{[]impl.Msg{beat(7, 1), answer(7, 0)}, true}, {[]impl.Msg{answer(7, 0), beat(7, 1)}, false},
		{[]impl.Msg{answer(7, 1), keys(7, 0)}, true}, {[]impl.Msg{keys(7, 0), answer(7, 1)}, false},
		{[]impl.Msg{beat(7, 1), keys(7, 0)}, true}, {[]impl.Msg{keys(7, 0), beat(7, 1)}, false},
		// Those that are alike in both may be in any order of their Values.
		{[]impl.Msg{keys(7, 9), keys(7, 3)}, true}, {[]impl.Msg{keys(7, 3), keys(7, 9)}, true},
		{[]impl.Msg{beat(7, 1), beat(7, 0)}, true}, {[]impl.Msg{answer(7, 1), answer(7, 0), answer(7, 1)}, true},
		{[]impl.Msg{beat(0, 0), beat(0, 0), keys(0, 0), beat(lastArrival, 0)}, true},
		{[]impl.Msg{beat(1, 0), beat(2, 0), beat(3, 0), beat(2, 0)}, false},
	} {
		wantInboxOk(t, c.inbox, c.want)
		if !c.want {
			wantInboxWith(t, c.inbox, keys(9, 9), nil, false)
		}
	}
}

func TestPlacesInAnInboxByHand(t *testing.T) {
	a, b, c, d := beat(5, 0), answer(5, 1), keys(5, 8), keys(5, 7)
	inbox := []impl.Msg{a, b, c, d, beat(9, 1)}
	for _, x := range []struct {
		m    impl.Msg
		want int
	}{
		{keys(4, 0), 0}, {beat(4, 1), 0}, {beat(0, 1), 0}, {beat(5, 1), 1}, {beat(5, 0), 1}, {answer(5, 0), 2}, {answer(5, 1), 2},
		{keys(5, 0), 4}, {keys(5, 255), 4}, {beat(6, 0), 4}, {keys(8, 0), 4}, {beat(9, 0), 5}, {answer(9, 0), 5}, {keys(lastArrival, 0), 5},
	} {
		wantInboxWith(t, inbox, x.m, slices.Insert(slices.Clone(inbox), x.want, x.m), true)
	}
	// One after the other, each behind those that are like it.
	var list []impl.Msg
	for _, m := range []impl.Msg{keys(5, 3), beat(5, 1), keys(5, 1), answer(4, 0), keys(5, 2), beat(5, 0)} {
		list = wantInboxWith(t, list, m, sortedWith(list, m), true)
	}
	if want := []impl.Msg{answer(4, 0), beat(5, 1), beat(5, 0), keys(5, 3), keys(5, 1), keys(5, 2)}; !slices.Equal(list, want) {
		t.Fatalf("got %v, want %v", list, want)
	}
}

func TestEveryPlaceInAnInbox(t *testing.T) {
	var inbox []impl.Msg
	for at := int64(2); at <= 8; at += 2 {
		for copies := range int64(3) {
			inbox = sortedWith(inbox, beat(at, copies%2))
			inbox = sortedWith(inbox, answer(at, copies%2))
			inbox = sortedWith(inbox, keys(at, 9-copies))
		}
	}
	for size := range len(inbox) + 1 {
		for at := range int64(11) {
			for _, m := range []impl.Msg{beat(at, 0), beat(at, 1), answer(at, 0), answer(at, 1), keys(at, 8), keys(at, 200)} {
				got := wantInboxWith(t, inbox[:size], m, sortedWith(inbox[:size], m), true)
				wantInboxOk(t, got, true)
			}
		}
	}
}

func TestInboxesThatAreFull(t *testing.T) {
	for _, size := range []int{198, 199, 200} {
		inbox := slices.Repeat([]impl.Msg{keys(7, 1)}, size)
		wantInboxOk(t, inbox, true)
		for _, m := range []impl.Msg{beat(7, 1), keys(7, 2), keys(9, 3)} {
			if size == 200 {
				wantInboxWith(t, inbox, m, inbox, false)
			} else {
				wantInboxWith(t, inbox, m, sortedWith(inbox, m), true)
			}
		}
		wantInboxWith(t, inbox, impl.Msg{}, inbox, false)
	}
	for _, size := range []int{201, 202, 1000} {
		inbox := slices.Repeat([]impl.Msg{keys(7, 1)}, size)
		wantInboxOk(t, inbox, false)
		wantInboxWith(t, inbox, keys(7, 1), nil, false)
		wantInboxWith(t, inbox, impl.Msg{}, nil, false)
	}
	var inbox []impl.Msg
	for i := range int64(200) {
		inbox = wantInboxWith(t, inbox, keys(200-i, i), append([]impl.Msg{keys(200-i, i)}, inbox...), true)
	}
	wantInboxWith(t, inbox, keys(0, 0), inbox, false)
}

func TestWrongInboxes(t *testing.T) {
	for _, inbox := range wrongInboxes() {
		wantInboxOk(t, inbox, false)
		for _, m := range []impl.Msg{beat(0, 1), keys(lastArrival, 5), {}, {At: -1, Kind: 1}} {
			wantInboxWith(t, inbox, m, nil, false)
		}
	}
}

// msgsWithRoom: the inbox with spare room behind it, and the whole of that memory.
func msgsWithRoom(inbox []impl.Msg) ([]impl.Msg, []impl.Msg) {
	whole := append(slices.Clone(inbox), slices.Repeat([]impl.Msg{{At: -7, Kind: -7, Value: -7}}, 8)...)
	return whole[:len(inbox)], whole
}

// spoil: all of it, the spare room behind it, too.
func spoil(list []impl.Msg) {
	list = list[:cap(list)]
	for i := range list {
		list[i] = impl.Msg{At: -9, Kind: -9, Value: -9}
	}
}

func TestInboxesShareNothing(t *testing.T) {
	full := slices.Repeat([]impl.Msg{keys(7, 1)}, 200)
	for _, given := range [][]impl.Msg{{}, {beat(5, 1)}, {beat(5, 1), answer(6, 0), keys(6, 9)}, full[:199], full, {keys(5, 1), beat(5, 1)}} {
		for _, m := range []impl.Msg{beat(0, 1), answer(6, 1), keys(9, 9), {}} {
			inbox, whole := msgsWithRoom(given)
			before := slices.Clone(whole)
			first, _ := impl.InboxWith(inbox, m)
			second, _ := impl.InboxWith(inbox, m)
			if !slices.Equal(whole, before) {
				t.Fatalf("InboxWith of %v, %v: what was given is changed", given, m)
			}
			want := slices.Clone(second)
			spoil(first)
			if !slices.Equal(whole, before) || !slices.Equal(second, want) {
				t.Fatalf("InboxWith of %v, %v: answers share memory", given, m)
			}
			spoil(whole)
			if !slices.Equal(second, want) {
				t.Fatalf("InboxWith of %v, %v: the answer shares memory with its argument", given, m)
			}
		}
	}
	inbox, whole := msgsWithRoom([]impl.Msg{keys(5, 1), keys(9, 2)})
	before := slices.Clone(whole)
	if !impl.InboxOk(inbox) || !slices.Equal(whole, before) {
		t.Fatal("InboxOk changes what was given")
	}
}

// stepWords: a step under way, worked out by the document's words alone.
type stepWords struct {
	impl.Step
	end int64
}

func (w *stepWords) flag(bit int64) {
	if w.Machine.Flags/bit%2 == 0 {
		w.Machine.Flags += bit
	}
}

func (w *stepWords) sends() {
	s := &w.Machine.Serial
	w.Out = append(w.Out, beat(s.NextAt+8, topBit(s.Data)))
	s.NextAt, s.Wait = 0, true
}

// shifts: a bit comes into Data, at that time.
func (w *stepWords) shifts(at, bit int64) {
	s := &w.Machine.Serial
	s.Data = shiftedIn(s.Data, bit)
	s.Left--
	s.Wait = false
	if s.Left == 0 {
		s.Busy, s.Lead = false, false
		w.flag(2)
		w.Evs = append(w.Evs, byteAt(at, s.Data))
	} else if s.Lead {
		s.NextAt = at + 32
	}
}

func (w *stepWords) uses(m impl.Msg) {
	w.Used++
	s := w.Machine.Serial
	switch m.Kind {
	case 1:
		if s.Busy && !s.Lead {
			w.Out = append(w.Out, answer(m.At+8, topBit(s.Data)))
			w.shifts(m.At, m.Value)
		} else {
			w.Out = append(w.Out, answer(m.At+8, 1))
		}
	case 2:
		if s.Wait {
			w.shifts(m.At, m.Value)
		}
	case 3:
		w.Machine.Keys = m.Value
		w.flag(4)
	}
}

func begunByWords(m impl.Machine) (*stepWords, int64) {
	called, i := interruptedByWords(m)
	if i != -1 {
		return &stepWords{impl.Step{Machine: called, Evs: []impl.Ev{calledBy(m.Clock+5, i)}}, m.Clock + 5}, 5
	}
	done, cost, out := executedByWords(called)
	w := &stepWords{impl.Step{Machine: done}, m.Clock + cost}
	if out != -1 {
		w.Evs = append(w.Evs, wentOut(w.end, out))
	}
	return w, cost
}

func stepByWords(m impl.Machine, inbox []impl.Msg) (impl.Step, bool) {
	w, cost := begunByWords(m)
	if w.end > lastEnd {
		return impl.Step{}, false
	}
	for {
		next := w.Machine.Serial.NextAt
		sendDue := next != 0 && next <= w.end
		msgDue := w.Used < int64(len(inbox)) && inbox[w.Used].At <= w.end
		if msgDue && (!sendDue || inbox[w.Used].At <= next) {
			w.uses(inbox[w.Used])
		} else if sendDue {
			w.sends()
		} else {
			break
		}
	}
	timer, came := countedOut(w.Machine.Timer, cost)
	w.Machine.Timer = timer
	if came > 0 {
		w.flag(1)
	}
	w.Machine.Clock = w.end
	return w.Step, true
}

func wantStep(t *testing.T, m impl.Machine, inbox []impl.Msg, want impl.Step, wantIs bool) impl.Step {
	t.Helper()
	before, msgs := machineClone(m), slices.Clone(inbox)
	got, is := impl.StepOf(m, inbox)
	if !likeSteps(got, want) || is != wantIs {
		t.Fatalf("StepOf of %+v, %v:\n got %+v %v\nwant %+v %v", m, inbox, got, is, want, wantIs)
	}
	if !likeMachines(m, before) || !slices.Equal(inbox, msgs) {
		t.Fatalf("StepOf of %+v, %v: an argument is changed to %+v, %v", before, msgs, m, inbox)
	}
	return got
}

// wantStepByWords: as the document's words tell; and it stays right.
func wantStepByWords(t *testing.T, m impl.Machine, inbox []impl.Msg) impl.Step {
	t.Helper()
	want, is := stepByWords(m, inbox)
	got := wantStep(t, m, inbox, want, is)
	if is && !impl.MachineOk(got.Machine) {
		t.Fatalf("StepOf of %+v, %v is not right: %+v", m, inbox, got.Machine)
	}
	return got
}

// wantStepped: Pc goes on by size, the Clock and the Count by cost; beside that there is nothing but what is put.
func wantStepped(t *testing.T, m impl.Machine, inbox []impl.Msg, size, cost int64, put func(*impl.Step)) impl.Step {
	t.Helper()
	want := impl.Step{Machine: machineClone(m)}
	want.Machine.Pc = (m.Pc + size) % 256
	want.Machine.Clock += cost
	want.Machine.Timer.Count += cost
	put(&want)
	return wantStep(t, m, inbox, want, true)
}

func noMore(*impl.Step) {}

// quiet: a machine ahead of this code to whom nothing came and who is not on the cable; at 500 (A 11, Sp 180, Keys 77).
func quiet(code ...int64) impl.Machine {
	m := coded(code...)
	m.Flags, m.Serial = 0, idle(44)
	return m
}

// onCable: likewise, with this Serial; the step ends at 503.
func onCable(s impl.Serial) impl.Machine {
	m := quiet(cJmp, 40)
	m.Serial = s
	return m
}

func toForty(s *impl.Step) { s.Machine.Pc = 40 }

func TestStepsOfEachCode(t *testing.T) {
	for code, row := range opRows {
		m := quiet(int64(code), 150)
		executed, cost, out := executedByWords(m)
		if out != -1 || cost != row.cost {
			t.Fatalf("%s: cost %d, out %d", row.name, cost, out)
		}
		want := impl.Step{Machine: atClock(executed, 500+row.cost)}
		wantStep(t, m, nil, want, true)
		wantStep(t, m, []impl.Msg{keys(501+row.cost, 5)}, want, true)
	}
	wantStepped(t, quiet(cNop), nil, 1, 1, noMore)
	wantStepped(t, quiet(cLda, 99), nil, 2, 2, func(s *impl.Step) { s.Machine.A = 99 })
	wantStepped(t, quiet(cPut, 130), nil, 2, 3, func(s *impl.Step) { s.Machine.Ram[2] = 11 })
	wantStepped(t, quiet(cCal, 66), nil, 0, 4, func(s *impl.Step) {
		s.Machine.Pc, s.Machine.Sp, s.Machine.Ram[51] = 66, 179, 2
	})
}

func TestStepsOfWhoIsHaltedOrStuck(t *testing.T) {
	for mix := 1; mix <= 3; mix++ {
		m := quiet(cPut, 249)
		m.Halted, m.Stuck = mix&1 != 0, mix&2 != 0
		wantStepped(t, m, nil, 0, 1, noMore)
		// What comes from outside still comes.
		wantStepped(t, m, []impl.Msg{beat(501, 0), keys(501, 5), keys(502, 6)}, 0, 1, func(s *impl.Step) {
			s.Machine.Keys, s.Machine.Flags, s.Used, s.Out = 5, 4, 2, []impl.Msg{answer(509, 1)}
		})
	}
	for code := int64(lastCode + 1); code <= 255; code++ {
		wantStepped(t, quiet(code), nil, 0, 1, func(s *impl.Step) { s.Machine.Stuck = true })
	}
	wantStepped(t, quiet(cHlt), nil, 1, 1, func(s *impl.Step) { s.Machine.Halted = true })
}

func TestStepsThatSendOut(t *testing.T) {
	for a := range int64(256) {
		m := quiet(cPut, 249)
		m.A = a
		wantStepped(t, m, nil, 2, 3, func(s *impl.Step) { s.Evs = []impl.Ev{wentOut(503, a)} })
		m = quiet(cPib)
		m.A, m.B = a, 249
		wantStepped(t, m, nil, 1, 2, func(s *impl.Step) { s.Evs = []impl.Ev{wentOut(502, a)} })
		m = quiet(cPsh)
		m.A, m.Sp = a, 250
		wantStepped(t, m, nil, 1, 3, func(s *impl.Step) {
			s.Machine.Sp, s.Evs = 249, []impl.Ev{wentOut(503, a)}
		})
	}
	m := ramCoded(150, cCal, 9)
	m.Flags, m.Serial, m.Sp = 0, idle(44), 250
	wantStepped(t, m, nil, 0, 4, func(s *impl.Step) {
		s.Machine.Sp, s.Machine.Pc, s.Evs = 249, 9, []impl.Ev{wentOut(504, 152)}
	})
	wantStepped(t, quiet(cPut, 248), nil, 2, 3, noMore)
	wantStepped(t, quiet(cPut, 250), nil, 2, 3, noMore)
}

func TestStepsThatAreInterrupts(t *testing.T) {
	for _, c := range []struct {
		flags, mask, i, left, pc int64
	}{
		{1, 1, 0, 0, 16}, {2, 2, 1, 0, 24}, {4, 4, 2, 0, 32}, {7, 7, 0, 6, 16}, {7, 6, 1, 5, 24}, {7, 4, 2, 3, 32},
	} {
		for _, halted := range []bool{false, true} {
			// Whatever stands at Pc is not done in this step.
			m := quiet(cPut, 249)
			m.Flags, m.Mask, m.Halted = c.flags, c.mask, halted
			wantStepped(t, m, nil, 0, 5, func(s *impl.Step) {
				x := &s.Machine
				x.Halted, x.Enabled, x.Flags, x.Sp, x.Ram[51], x.Pc = false, false, c.left, 179, 0, c.pc
				s.Evs = []impl.Ev{calledBy(505, c.i)}
			})
		}
	}
	// A Pc that is pushed to 249 is no EvOut: there is one for an operation alone.
	m := quiet(cNop)
	m.Flags, m.Mask, m.Sp = 2, 2, 250
	wantStepped(t, m, nil, 0, 5, func(s *impl.Step) {
		x := &s.Machine
		x.Enabled, x.Flags, x.Sp, x.Pc, s.Evs = false, 0, 249, 24, []impl.Ev{calledBy(505, 1)}
	})
}

func TestStepsOfWhoIsNotCalledAway(t *testing.T) {
	// Not Enabled: awake, and the operation is done in this very step.
	m := quiet(cPut, 249)
	m.Flags, m.Mask, m.Enabled, m.Halted = 4, 4, false, true
	wantStepped(t, m, nil, 2, 3, func(s *impl.Step) {
		s.Machine.Halted, s.Evs = false, []impl.Ev{wentOut(503, 11)}
	})
	m.Halted = false
	wantStepped(t, m, nil, 2, 3, func(s *impl.Step) { s.Evs = []impl.Ev{wentOut(503, 11)} })
	// Stuck: neither called away nor awake.
	m.Enabled, m.Halted, m.Stuck = true, true, true
	wantStepped(t, m, nil, 0, 1, noMore)
	// What came is not wanted.
	m = quiet(cNop)
	m.Flags, m.Mask = 3, 4
	wantStepped(t, m, nil, 1, 1, noMore)
	m.Halted = true
	wantStepped(t, m, nil, 0, 1, noMore)
	// eni: the next step is called away, not this one.
	m = quiet(cEni)
	m.Flags, m.Mask, m.Enabled = 4, 4, false
	s := wantStepped(t, m, nil, 1, 1, func(s *impl.Step) { s.Machine.Enabled = true })
	wantStepped(t, s.Machine, nil, 0, 5, func(s *impl.Step) {
		x := &s.Machine
		x.Enabled, x.Flags, x.Sp, x.Ram[51], x.Pc, s.Evs = false, 0, 179, 1, 32, []impl.Ev{calledBy(506, 2)}
	})
}

// TestWhatComesMeanwhileCallsLater: what comes within a step calls away in the next one.
func TestWhatComesMeanwhileCallsLater(t *testing.T) {
	m := onCable(idle(44))
	m.Mask = 4
	s := wantStepped(t, m, []impl.Msg{keys(500, 5)}, 0, 3, func(s *impl.Step) {
		toForty(s)
		s.Machine.Keys, s.Machine.Flags, s.Used = 5, 4, 1
	})
	wantStepped(t, s.Machine, nil, 0, 5, func(s *impl.Step) {
		x := &s.Machine
		x.Enabled, x.Flags, x.Sp, x.Ram[51], x.Pc, s.Evs = false, 0, 179, 40, 32, []impl.Ev{calledBy(508, 2)}
	})
	// In an interrupt's own step, the bit that is out of Flags may come again.
	m.Flags = 4
	wantStepped(t, m, []impl.Msg{keys(505, 6), keys(506, 7)}, 0, 5, func(s *impl.Step) {
		x := &s.Machine
		x.Enabled, x.Flags, x.Sp, x.Ram[51], x.Pc, x.Keys = false, 4, 179, 0, 32, 6
		s.Evs, s.Used = []impl.Ev{calledBy(505, 2)}, 1
	})
}

func TestMsgsOfAllKindsInOneStep(t *testing.T) {
	// One that waits, with two bits left; 0, then 1 come into 10010110.
	m := quiet(cPut, 249)
	m.Serial = waiting(150, 2)
	inbox := []impl.Msg{beat(500, 0), answer(500, 1), keys(500, 3), beat(501, 1), beat(502, 0), answer(502, 0), keys(503, 4), beat(504, 1)}
	wantStepped(t, m, inbox, 2, 3, func(s *impl.Step) {
		s.Machine.Serial, s.Machine.Flags, s.Machine.Keys, s.Used = idle(89), 6, 4, 7
		s.Out = []impl.Msg{answer(508, 1), answer(509, 0), answer(510, 1)}
		s.Evs = []impl.Ev{wentOut(503, 11), byteAt(501, 89)}
	})
	// One that leads, and whose answer is there: what else comes on the cable does nothing to it.
	m = onCable(asking(150, 2))
	inbox = []impl.Msg{beat(500, 0), answer(501, 1), answer(501, 0), keys(501, 3), beat(502, 0), answer(502, 0), keys(503, 4), keys(503, 9), beat(504, 1)}
	wantStepped(t, m, inbox, 0, 3, func(s *impl.Step) {
		toForty(s)
		s.Machine.Serial, s.Machine.Flags, s.Machine.Keys, s.Used = leading(45, 1, 533), 4, 9, 8
		s.Out = []impl.Msg{answer(508, 1), answer(510, 1)}
	})
}

func TestBytesThatAreThroughByABeat(t *testing.T) {
	for data := range int64(256) {
		for bit := range int64(2) {
			for at := int64(500); at <= 503; at++ {
				for _, flags := range []int64{0, 1, 2, 7} {
					m := onCable(waiting(data, 1))
					m.Flags, m.Mask = flags, 0
					wantStepped(t, m, []impl.Msg{beat(at, bit)}, 0, 3, func(s *impl.Step) {
						toForty(s)
						s.Machine.Serial, s.Machine.Flags = idle(shiftedIn(data, bit)), []int64{2, 3, 2, 0, 0, 0, 0, 7}[flags]
						s.Out = []impl.Msg{answer(at+8, topBit(data))}
						s.Evs, s.Used = []impl.Ev{byteAt(at, shiftedIn(data, bit))}, 1
					})
				}
			}
			m := onCable(waiting(data, 2))
			wantStepped(t, m, []impl.Msg{beat(501, bit)}, 0, 3, func(s *impl.Step) {
				toForty(s)
				s.Machine.Serial, s.Out, s.Used = waiting(shiftedIn(data, bit), 1), []impl.Msg{answer(509, topBit(data))}, 1
			})
		}
	}
}

func TestBytesThatAreThroughByAnAnswer(t *testing.T) {
	for data := range int64(256) {
		for bit := range int64(2) {
			for at := int64(500); at <= 503; at++ {
				for _, flags := range []int64{0, 1, 2, 7} {
					m := onCable(asking(data, 1))
					m.Flags, m.Mask = flags, 0
					wantStepped(t, m, []impl.Msg{answer(at, bit)}, 0, 3, func(s *impl.Step) {
						toForty(s)
						s.Machine.Serial, s.Machine.Flags = idle(shiftedIn(data, bit)), []int64{2, 3, 2, 0, 0, 0, 0, 7}[flags]
						s.Evs, s.Used = []impl.Ev{byteAt(at, shiftedIn(data, bit))}, 1
					})
				}
				m := onCable(asking(data, 2))
				wantStepped(t, m, []impl.Msg{answer(at, bit)}, 0, 3, func(s *impl.Step) {
					toForty(s)
					s.Machine.Serial, s.Used = leading(shiftedIn(data, bit), 1, at+32), 1
				})
			}
		}
	}
}

// TestWhoDoesNotWait: a beat is answered 1 by all that do not wait for one, an answer does nothing where there is none to come.
func TestWhoDoesNotWait(t *testing.T) {
	for _, serial := range []impl.Serial{idle(0), idle(44), leading(0, 8, 0), leading(0, 8, 504), leading(44, 1, 600), asking(0, 8), asking(44, 1)} {
		for bit := range int64(2) {
			wantStepped(t, onCable(serial), []impl.Msg{beat(502, bit)}, 0, 3, func(s *impl.Step) {
				toForty(s)
				s.Out, s.Used = []impl.Msg{answer(510, 1)}, 1
			})
		}
	}
	for _, serial := range []impl.Serial{idle(0), idle(44), waiting(0, 8), waiting(44, 1), leading(0, 8, 0), leading(44, 1, 504)} {
		for bit := range int64(2) {
			wantStepped(t, onCable(serial), []impl.Msg{answer(502, bit)}, 0, 3, func(s *impl.Step) {
				toForty(s)
				s.Used = 1
			})
		}
	}
}

func TestKeysWithinAStep(t *testing.T) {
	for n := range int64(256) {
		for _, flags := range []int64{0, 3, 4, 7} {
			m := onCable(idle(44))
			m.Flags, m.Mask = flags, 0
			wantStepped(t, m, []impl.Msg{keys(502, n)}, 0, 3, func(s *impl.Step) {
				toForty(s)
				s.Machine.Keys, s.Machine.Flags, s.Used = n, []int64{4, 0, 0, 7, 4, 0, 0, 7}[flags], 1
			})
		}
	}
	// Keys that are the same as before come, too.
	wantStepped(t, onCable(idle(44)), []impl.Msg{keys(502, 77)}, 0, 3, func(s *impl.Step) {
		toForty(s)
		s.Machine.Flags, s.Used = 4, 1
	})
}

func TestBeatsOfItsOwnWithinAStep(t *testing.T) {
	for data := range int64(256) {
		for next := int64(500); next <= 503; next++ {
			wantStepped(t, onCable(leading(data, 5, next)), nil, 0, 3, func(s *impl.Step) {
				toForty(s)
				s.Machine.Serial, s.Out = asking(data, 5), []impl.Msg{beat(next+8, topBit(data))}
			})
		}
		wantStepped(t, onCable(leading(data, 5, 504)), nil, 0, 3, toForty)
		// A NextAt of 0 is none.
		wantStepped(t, onCable(leading(data, 5, 0)), nil, 0, 3, toForty)
	}
}

// TestJustAtTheEndAndBehindIt: for each cost that a step can have.
func TestJustAtTheEndAndBehindIt(t *testing.T) {
	interrupt := quiet(cNop)
	interrupt.Flags, interrupt.Mask = 1, 1
	for _, m := range []impl.Machine{quiet(cNop), quiet(cLda, 5), quiet(cPut, 130), quiet(cPut, 249), quiet(cCal, 9), interrupt} {
		plain, _ := impl.StepOf(m, nil)
		end := plain.Machine.Clock
		for _, msg := range []impl.Msg{beat(end, 0), answer(end, 0), keys(end, 5)} {
			if s := wantStepByWords(t, m, []impl.Msg{msg}); s.Used != 1 {
				t.Fatalf("%v just at the end is not used", msg)
			}
			msg.At++
			wantStep(t, m, []impl.Msg{msg}, plain, true)
			msg.At = lastArrival
			wantStep(t, m, []impl.Msg{msg}, plain, true)
		}
		m.Serial = leading(200, 4, end)
		want := impl.Step{Machine: machineClone(plain.Machine), Out: []impl.Msg{beat(end+8, 1)}, Evs: plain.Evs}
		want.Machine.Serial = asking(200, 4)
		wantStep(t, m, nil, want, true)
		for _, behind := range []int64{end + 1, end + 2, impl.MaxClock} {
			m.Serial = leading(200, 4, behind)
			want.Machine.Serial, want.Out = m.Serial, nil
			wantStep(t, m, nil, want, true)
		}
	}
}

// TestMsgFirst: where a Msg and a NextAt are at once, the Msg is met first; where one of them is earlier, that one is.
func TestMsgFirst(t *testing.T) {
	for next := int64(500); next <= 503; next++ {
		m := onCable(leading(200, 3, next))
		// An answer that comes ahead of the beat, or at once with it, finds nobody that waits.
		for at := int64(499); at <= next; at++ {
			wantStepped(t, m, []impl.Msg{answer(at, 1)}, 0, 3, func(s *impl.Step) {
				toForty(s)
				s.Machine.Serial, s.Out, s.Used = asking(200, 3), []impl.Msg{beat(next+8, 1)}, 1
			})
		}
		for at := next + 1; at <= 503; at++ {
			wantStepped(t, m, []impl.Msg{answer(at, 1)}, 0, 3, func(s *impl.Step) {
				toForty(s)
				s.Machine.Serial, s.Out, s.Used = leading(145, 2, at+32), []impl.Msg{beat(next+8, 1)}, 1
			})
		}
		// The order of what is sent tells which was first.
		for at := int64(499); at <= 503; at++ {
			wantStepped(t, m, []impl.Msg{beat(at, 0)}, 0, 3, func(s *impl.Step) {
				toForty(s)
				s.Machine.Serial, s.Used = asking(200, 3), 1
				s.Out = []impl.Msg{answer(at+8, 1), beat(next+8, 1)}
				if at > next {
					s.Out = []impl.Msg{beat(next+8, 1), answer(at+8, 1)}
				}
			})
		}
		// All that are at once, not the first one alone.
		wantStepped(t, m, []impl.Msg{beat(next, 0), beat(next, 1), answer(next, 1), keys(next, 5)}, 0, 3, func(s *impl.Step) {
			toForty(s)
			s.Machine.Serial, s.Machine.Keys, s.Machine.Flags, s.Used = asking(200, 3), 5, 4, 4
			s.Out = []impl.Msg{answer(next+8, 1), answer(next+8, 1), beat(next+8, 1)}
		})
	}
}

// TestAnswersWhoseNextBeatFallsIn: an answer of long ago sets a NextAt that is within the step, too, and its answer may be there.
func TestAnswersWhoseNextBeatFallsIn(t *testing.T) {
	m := onCable(asking(150, 8))
	for _, c := range []struct {
		at   int64
		sent bool
	}{
		{0, true}, {400, true}, {468, true}, {470, true}, {471, true}, {472, false}, {500, false}, {503, false},
	} {
		wantStepped(t, m, []impl.Msg{answer(c.at, 1)}, 0, 3, func(s *impl.Step) {
			toForty(s)
			s.Machine.Serial, s.Used = leading(45, 7, c.at+32), 1
			if c.sent {
				s.Machine.Serial, s.Out = asking(45, 7), []impl.Msg{beat(c.at+40, 0)}
			}
		})
	}
	// A Msg at once with the new NextAt is still the first one: this answer finds nobody that waits, the one behind it does.
	wantStepped(t, m, []impl.Msg{answer(400, 1), answer(432, 1), answer(433, 0)}, 0, 3, func(s *impl.Step) {
		toForty(s)
		s.Machine.Serial, s.Used = asking(90, 6), 3
		s.Out = []impl.Msg{beat(440, 0), beat(473, 0)}
	})
	// A whole byte within one step, the first beat being the machine's own.
	m = onCable(leading(150, 8, 10))
	var inbox, out []impl.Msg
	for i := range int64(8) {
		sent := 10 + 40*i
		inbox = append(inbox, answer(sent+8, 1-i%2))
		out = append(out, beat(sent+8, []int64{1, 0, 0, 1, 0, 1, 1, 0}[i]))
	}
	wantStepped(t, m, inbox, 0, 3, func(s *impl.Step) {
		toForty(s)
		s.Machine.Serial, s.Machine.Flags, s.Out, s.Used = idle(170), 2, out, 8
		s.Evs = []impl.Ev{byteAt(298, 170)}
	})
}

func TestMsgsAheadOfTheClock(t *testing.T) {
	for _, at := range []int64{0, 1, 7, 498, 499} {
		wantStepped(t, onCable(idle(44)), []impl.Msg{keys(at, 5)}, 0, 3, func(s *impl.Step) {
			toForty(s)
			s.Machine.Keys, s.Machine.Flags, s.Used = 5, 4, 1
		})
		// Its time is its own, though it is met late.
		wantStepped(t, onCable(waiting(129, 1)), []impl.Msg{beat(at, 1)}, 0, 3, func(s *impl.Step) {
			toForty(s)
			s.Machine.Serial, s.Machine.Flags, s.Used = idle(3), 2, 1
			s.Out, s.Evs = []impl.Msg{answer(at+8, 1)}, []impl.Ev{byteAt(at, 3)}
		})
		wantStepped(t, onCable(asking(129, 1)), []impl.Msg{answer(at, 0)}, 0, 3, func(s *impl.Step) {
			toForty(s)
			s.Machine.Serial, s.Machine.Flags, s.Used, s.Evs = idle(2), 2, 1, []impl.Ev{byteAt(at, 2)}
		})
		if at > 0 {
			wantStepped(t, onCable(leading(129, 1, at)), nil, 0, 3, func(s *impl.Step) {
				toForty(s)
				s.Machine.Serial, s.Out = asking(129, 1), []impl.Msg{beat(at+8, 1)}
			})
		}
	}
	inbox := slices.Repeat([]impl.Msg{keys(3, 1)}, 200)
	wantStepped(t, onCable(idle(44)), inbox, 0, 3, func(s *impl.Step) {
		toForty(s)
		s.Machine.Keys, s.Machine.Flags, s.Used = 1, 4, 200
	})
}

// TestTheOperationIsDoneFirst: what it writes to the ports is there for all that happens meanwhile.
func TestTheOperationIsDoneFirst(t *testing.T) {
	// It begins to wait, and hears a beat of before.
	m := quiet(cPut, 241)
	m.A = 128
	wantStepped(t, m, []impl.Msg{beat(500, 1)}, 2, 3, func(s *impl.Step) {
		s.Machine.Serial, s.Out, s.Used = waiting(89, 7), []impl.Msg{answer(508, 0)}, 1
	})
	// It gives up: no beat is sent, no byte is through.
	m.A, m.Serial = 0, leading(200, 1, 501)
	wantStepped(t, m, []impl.Msg{answer(502, 1)}, 2, 3, func(s *impl.Step) { s.Machine.Serial, s.Used = idle(200), 1 })
	// It begins to lead: the beat is 32 behind the Clock at which the step began.
	m.A = 129
	wantStepped(t, m, nil, 2, 3, func(s *impl.Step) { s.Machine.Serial = leading(200, 8, 532) })
	// It clears Flags, and then one comes.
	m = quiet(cPut, 246)
	m.A, m.Flags, m.Mask, m.Serial = 0, 7, 0, waiting(44, 1)
	wantStepped(t, m, []impl.Msg{beat(500, 1)}, 2, 3, func(s *impl.Step) {
		s.Machine.Flags, s.Machine.Serial, s.Used = 2, idle(89), 1
		s.Out, s.Evs = []impl.Msg{answer(508, 0)}, []impl.Ev{byteAt(500, 89)}
	})
	// It changes Data, of which the top bit is sent then.
	m = quiet(cPut, 240)
	m.A, m.Serial = 128, leading(1, 8, 501)
	wantStepped(t, m, nil, 2, 3, func(s *impl.Step) {
		s.Machine.Serial, s.Out = asking(128, 8), []impl.Msg{beat(509, 1)}
	})
	// It reads Keys as they were.
	m = quiet(cGet, 248)
	wantStepped(t, m, []impl.Msg{keys(500, 5)}, 2, 3, func(s *impl.Step) {
		s.Machine.A, s.Machine.Keys, s.Machine.Flags, s.Used = 77, 5, 4, 1
	})
}

func TestTimerWithinAStep(t *testing.T) {
	for _, c := range []struct {
		clock, value, mode, want int64
		came                     bool
	}{
		// 509 and 3 is 512, a multiple of each Rate.
		{509, 255, 4, 8, true}, {509, 255, 5, 8, true}, {509, 255, 6, 8, true}, {509, 255, 7, 8, true},
		{510, 255, 4, 8, true}, {511, 255, 4, 8, true}, {508, 255, 4, 255, false}, {512, 255, 4, 255, false},
		{509, 254, 4, 255, false}, {509, 255, 3, 255, false}, {509, 255, 0, 255, false}, {509, 8, 4, 9, false},
	} {
		for flags := range int64(8) {
			m := atClock(onCable(idle(44)), c.clock)
			m.Timer.Value, m.Timer.Mode, m.Flags, m.Mask = c.value, c.mode, flags, 0
			wantStepped(t, m, nil, 0, 3, func(s *impl.Step) {
				toForty(s)
				s.Machine.Timer.Value = c.want
				if c.came {
					s.Machine.Flags = []int64{1, 1, 3, 3, 5, 5, 7, 7}[flags]
				}
			})
		}
	}
	// An interrupt takes five cycles of the timer, too; the bit that is out of Flags comes again.
	m := atClock(quiet(cNop), 507)
	m.Timer.Value, m.Flags, m.Mask = 255, 1, 1
	wantStepped(t, m, nil, 0, 5, func(s *impl.Step) {
		x := &s.Machine
		x.Timer.Value, x.Enabled, x.Sp, x.Ram[51], x.Pc = 8, false, 179, 0, 16
		s.Evs = []impl.Ev{calledBy(512, 0)}
	})
	m = atClock(m, 506)
	wantStepped(t, m, nil, 0, 5, func(s *impl.Step) {
		x := &s.Machine
		x.Flags, x.Enabled, x.Sp, x.Ram[51], x.Pc = 0, false, 179, 0, 16
		s.Evs = []impl.Ev{calledBy(511, 0)}
	})
}

// TestTimerAfterTheOperation: a Value, a Start or a Mode that the step itself sets counts in it.
func TestTimerAfterTheOperation(t *testing.T) {
	m := atClock(quiet(cPut, 243), 509)
	m.A, m.Timer.Value = 255, 0
	wantStepped(t, m, nil, 2, 3, func(s *impl.Step) { s.Machine.Timer.Value, s.Machine.Flags = 8, 1 })
	m = atClock(quiet(cPut, 244), 509)
	m.A, m.Timer.Value = 66, 255
	wantStepped(t, m, nil, 2, 3, func(s *impl.Step) {
		s.Machine.Timer.Value, s.Machine.Timer.Start, s.Machine.Flags = 66, 66, 1
	})
	m = atClock(quiet(cPut, 245), 509)
	m.A, m.Timer.Value = 4, 255
	m.Timer.Mode = 0
	wantStepped(t, m, nil, 2, 3, func(s *impl.Step) {
		s.Machine.Timer.Value, s.Machine.Timer.Mode, s.Machine.Flags = 8, 4, 1
	})
	m.A, m.Timer.Mode = 0, 4
	wantStepped(t, m, nil, 2, 3, func(s *impl.Step) { s.Machine.Timer.Mode = 0 })
}

func TestLastEnd(t *testing.T) {
	interrupt := quiet(cNop)
	interrupt.Flags, interrupt.Mask = 1, 1
	halted := quiet(cNop)
	halted.Halted = true
	for _, m := range []impl.Machine{quiet(cNop), quiet(cLda, 5), quiet(cPut, 130), quiet(cPut, 249), quiet(cCal, 9), quiet(255), interrupt, halted} {
		plain, _ := impl.StepOf(m, nil)
		cost := plain.Machine.Clock - 500
		for _, inbox := range [][]impl.Msg{nil, {keys(5, 5)}, {beat(lastEnd, 1)}, {answer(lastEnd-1, 1), keys(lastEnd, 5)}, {keys(lastArrival, 5)}} {
			if s := wantStepByWords(t, atClock(m, lastEnd-cost), inbox); s.Machine.Clock != lastEnd || s.Machine.Timer.Count != lastEnd {
				t.Fatalf("%+v ends at %d", m, s.Machine.Clock)
			}
			for _, clock := range []int64{lastEnd - cost + 1, lastEnd - cost + 2, lastEnd, lastEnd + 1, lastEnd + 95, impl.MaxClock - 32, impl.MaxClock - 1, impl.MaxClock} {
				wantStep(t, atClock(m, clock), inbox, impl.Step{}, false)
			}
		}
	}
	// All on the cable that is near the last end, and right all the same.
	m := atClock(onCable(asking(150, 3)), lastEnd-3)
	wantStepped(t, m, []impl.Msg{answer(lastEnd, 1)}, 0, 3, func(s *impl.Step) {
		toForty(s)
		s.Machine.Serial, s.Used = leading(45, 2, lastEnd+32), 1
	})
	m.Serial = leading(150, 3, lastEnd)
	wantStepped(t, m, []impl.Msg{beat(lastEnd, 0)}, 0, 3, func(s *impl.Step) {
		toForty(s)
		s.Machine.Serial, s.Used = asking(150, 3), 1
		s.Out = []impl.Msg{answer(lastEnd+8, 1), beat(lastEnd+8, 1)}
	})
	m = atClock(quiet(cPut, 241), lastEnd-3)
	m.A = 255
	wantStepped(t, m, nil, 2, 3, func(s *impl.Step) { s.Machine.Serial = leading(44, 8, lastEnd+29) })
}

func TestNoStepOfWhatIsNotRight(t *testing.T) {
	inboxes := [][]impl.Msg{nil, {keys(501, 5)}, {{}}, slices.Repeat([]impl.Msg{keys(7, 1)}, 201)}
	for _, m := range wrongMachines() {
		for _, inbox := range inboxes {
			wantStep(t, m, inbox, impl.Step{}, false)
		}
	}
	interrupt := asked(7, 7, true)
	stuck := quiet(cNop)
	stuck.Stuck = true
	for _, inbox := range wrongInboxes() {
		for _, m := range []impl.Machine{quiet(cNop), interrupt, stuck, atClock(quiet(cNop), impl.MaxClock), {}} {
			wantStep(t, m, inbox, impl.Step{}, false)
		}
	}
	// What is not right makes the whole inbox so, though it would come long after the step.
	wantStep(t, quiet(cNop), []impl.Msg{keys(501, 5), keys(lastArrival+1, 5)}, impl.Step{}, false)
	wantStep(t, quiet(cNop), []impl.Msg{keys(501, 5), keys(600, 5), keys(599, 5)}, impl.Step{}, false)
	wantStep(t, quiet(cNop), []impl.Msg{keys(math.MaxInt64, 5)}, impl.Step{}, false)
	for _, size := range []int{200, 201} {
		inbox := slices.Repeat([]impl.Msg{keys(600, 5)}, size)
		if _, is := impl.StepOf(quiet(cNop), inbox); is != (size == 200) {
			t.Fatalf("a step with %d Msgs: %v", size, is)
		}
	}
}

// dice: numbers that are the same in every run.
type dice uint32

func (d *dice) below(n int64) int64 {
	*d = *d*1664525 + 1013904223
	return int64(*d>>8) % n
}

func (d *dice) msg(at int64) impl.Msg {
	switch kind := 1 + d.below(3); kind {
	case 3:
		return keys(at, d.below(256))
	default:
		return impl.Msg{At: at, Kind: kind, Value: d.below(2)}
	}
}

// inboxAt: Msgs from back ahead of the clock to a few cycles behind it.
func (d *dice) inboxAt(clock, back int64) []impl.Msg {
	var inbox []impl.Msg
	for range d.below(9) {
		inbox = sortedWith(inbox, d.msg(max(0, clock-back+d.below(back+8))))
	}
	return inbox
}

// program: a machine of these dice's codes, that is set going.
func (d *dice) program(m impl.Machine) impl.Machine {
	m = machineClone(m)
	m.Halted, m.Stuck, m.Pc = false, false, 0
	code := make([]int64, 127)
	for i := range code {
		code[i] = d.below(31)
		if i%3 == 1 {
			// What is behind a code is often the place of a port, or of what goes out.
			code[i] = []int64{d.below(256), 240 + d.below(10), 249}[d.below(3)]
		}
		if i%6 == 0 {
			code[i] = cPut
		}
	}
	m.Rom = append(code, plainCheck(code))
	for i := range m.Ram {
		m.Ram[i] = d.below(31)
	}
	return m
}

func TestStepsOfManySamples(t *testing.T) {
	d := dice(12345)
	for _, sample := range sampleMachines(t) {
		for _, serial := range someSerials() {
			for range 6 {
				m := machineClone(sample)
				m.Serial, m.Pc, m.Flags, m.Mask = serial, d.below(256), d.below(8), d.below(8)
				if serial.NextAt != 0 {
					m.Serial.NextAt = min(impl.MaxClock, 1+max(0, m.Clock-40+d.below(46)))
				}
				for _, x := range mixed(m) {
					wantStepByWords(t, x, d.inboxAt(m.Clock, 80))
				}
			}
		}
	}
}

// TestLongRunsOfSteps: one step upon the other; each goes on by its cost, and what it sends is Delay behind what it was sent for.
func TestLongRunsOfSteps(t *testing.T) {
	d := dice(2463534242)
	samples := sampleMachines(t)
	kinds := map[[2]int64]int{}
	for run := range 300 {
		m := d.program(samples[run%len(samples)])
		m = atClock(m, m.Clock%2000000)
		m.Serial, m.Enabled, m.Mask = waiting(d.below(256), 8), true, d.below(8)
		var inbox []impl.Msg
		for range 200 {
			for range d.below(3) {
				inbox = sortedWith(inbox, d.msg(m.Clock+1+d.below(12)))
			}
			s := wantStepByWords(t, m, inbox)
			wantPromiseKept(t, m, inbox, s)
			for _, ev := range s.Evs {
				kinds[[2]int64{0, ev.Kind}]++
			}
			for _, out := range s.Out {
				kinds[[2]int64{1, out.Kind}]++
			}
			m, inbox = s.Machine, inbox[s.Used:]
			// Who would stay so is set going elsewhere.
			if m.Halted || m.Stuck {
				m.Halted, m.Stuck, m.Pc = false, false, d.below(192)
			}
			if !m.Serial.Busy && d.below(4) == 0 {
				m.Serial = leading(m.Serial.Data, 8, m.Clock+1+d.below(12))
			}
		}
	}
	for _, kind := range [][2]int64{{0, 1}, {0, 2}, {0, 3}, {1, 1}, {1, 2}} {
		if kinds[kind] < 20 {
			t.Fatalf("kind %v was met only %d times", kind, kinds[kind])
		}
	}
}

// wantPromiseKept: where nothing is at the Clock or ahead of it, a step of 1 to MostCost cycles sends nothing that arrives within Delay.
func wantPromiseKept(t *testing.T, m impl.Machine, inbox []impl.Msg, s impl.Step) {
	t.Helper()
	cost := s.Machine.Clock - m.Clock
	if cost < 1 || cost > impl.MostCost() || s.Machine.Timer.Count != s.Machine.Clock {
		t.Fatalf("StepOf of %+v goes on by %d", m, cost)
	}
	for _, out := range s.Out {
		if out.At < m.Clock+1+impl.Delay || out.At > s.Machine.Clock+impl.Delay {
			t.Fatalf("StepOf of %+v, %v sends %v", m, inbox, out)
		}
	}
	for i, msg := range inbox {
		if (msg.At <= s.Machine.Clock) != (int64(i) < s.Used) {
			t.Fatalf("StepOf of %+v, %v, to %d: used %d", m, inbox, s.Machine.Clock, s.Used)
		}
	}
	for _, ev := range s.Evs {
		if ev.At <= m.Clock || ev.At > s.Machine.Clock {
			t.Fatalf("StepOf of %+v, %v: %v is not within the step", m, inbox, ev)
		}
	}
}

// sharedSamples: steps of each kind, with and without something on the cable.
func sharedSamples() []impl.Machine {
	list := []impl.Machine{asked(7, 7, true), asked(7, 7, false), atClock(quiet(cNop), impl.MaxClock)}
	for _, serial := range []impl.Serial{idle(44), waiting(44, 1), leading(44, 3, 501), asking(44, 2)} {
		for _, code := range [][]int64{{cNop}, {cPut, 130}, {cPut, 249}, {cPsh}, {cHlt}, {255}} {
			m := quiet(code...)
			m.Serial = serial
			list = append(list, m)
			m.Halted = true
			list = append(list, m)
		}
	}
	return list
}

func TestStepsShareNothing(t *testing.T) {
	full := slices.Repeat([]impl.Msg{beat(501, 1)}, 200)
	for _, given := range [][]impl.Msg{{}, {keys(501, 5)}, {beat(501, 1), answer(501, 1), beat(502, 0), keys(900, 1)}, full, {keys(5, 1), keys(4, 1)}} {
		for _, m := range sharedSamples() {
			inbox, whole := msgsWithRoom(given)
			before := slices.Clone(whole)
			wantSharesNothing(t, m, func(m impl.Machine) impl.Machine {
				s, _ := impl.StepOf(m, inbox)
				return s.Machine
			})
			first, _ := impl.StepOf(m, inbox)
			second, _ := impl.StepOf(m, inbox)
			out, evs := slices.Clone(second.Out), slices.Clone(second.Evs)
			spoil(first.Out)
			for i := range first.Evs[:cap(first.Evs)] {
				first.Evs[:cap(first.Evs)][i] = impl.Ev{At: -9}
			}
			if !slices.Equal(second.Out, out) || !slices.Equal(second.Evs, evs) || !slices.Equal(whole, before) {
				t.Fatalf("StepOf of %+v, %v: answers share memory, or what was given is changed", m, given)
			}
			spoil(whole)
			if !slices.Equal(second.Out, out) {
				t.Fatalf("StepOf of %+v, %v: the answer shares memory with its inbox", m, given)
			}
		}
	}
}

func TestStepsOfOneMemory(t *testing.T) {
	for code := range int64(256) {
		m := filledMachine(64)
		m.Rom[0], m.Rom[1] = code, 150
		m.Rom[63] = plainCheck(m.Rom[:63])
		m.Ram, m.Pc = m.Rom, 0
		before := slices.Clone(m.Rom)
		for _, x := range mixed(m) {
			x.Rom, x.Ram = m.Rom, m.Rom
			s := wantStepByWords(t, x, []impl.Msg{beat(501, 1), keys(501, 5)})
			wantOwnMemory(t, s.Machine)
			if !slices.Equal(m.Rom, before) {
				t.Fatalf("code %d: the answer shares memory", code)
			}
		}
	}
}
