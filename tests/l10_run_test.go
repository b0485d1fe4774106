package tests

import (
	"math"
	"slices"
	"testing"

	"loop.example/g00741/impl"
)

// wrongUntils: below 0 and past MaxUntil.
var wrongUntils = append([]int64{-1, -2, -100, impl.MaxUntil + 1, impl.MaxUntil + 2, impl.MaxClock, impl.MaxClock + 1}, farNumbers...)

// stepCopy shares no list with s.
func stepCopy(s impl.Step) impl.Step {
	return impl.Step{Machine: machineClone(s.Machine), Out: slices.Clone(s.Out), Evs: slices.Clone(s.Evs), Used: s.Used}
}

// runByWords: one step upon the other, each worked out by the document's words alone.
func runByWords(m impl.Machine, inbox []impl.Msg, until int64) impl.Step {
	run := impl.Step{Machine: machineClone(m)}
	for run.Machine.Clock < until {
		s, is := stepByWords(run.Machine, inbox[run.Used:])
		if !is {
			return run
		}
		run = impl.Step{Machine: s.Machine, Out: slices.Concat(run.Out, s.Out), Evs: slices.Concat(run.Evs, s.Evs), Used: run.Used + s.Used}
	}
	return run
}

func wantRun(t *testing.T, m impl.Machine, inbox []impl.Msg, until int64, want impl.Step, wantIs bool) impl.Step {
	t.Helper()
	before, msgs := machineClone(m), slices.Clone(inbox)
	got, is := impl.RunTo(m, inbox, until)
	if !likeSteps(got, want) || is != wantIs {
		t.Fatalf("RunTo of %+v, %v, %d:\n got %+v %v\nwant %+v %v", m, inbox, until, got, is, want, wantIs)
	}
	if !likeMachines(m, before) || !slices.Equal(inbox, msgs) {
		t.Fatalf("RunTo of %+v, %v, %d: an argument is changed to %+v, %v", before, msgs, until, m, inbox)
	}
	return got
}

func wantRunByWords(t *testing.T, m impl.Machine, inbox []impl.Msg, until int64) impl.Step {
	t.Helper()
	got := wantRun(t, m, inbox, until, runByWords(m, inbox, until), true)
	if !impl.MachineOk(got.Machine) {
		t.Fatalf("RunTo of %+v, %v, %d is not right: %+v", m, inbox, until, got.Machine)
	}
	return got
}

// wantNothingDone: the machine as it is, though there may be Msgs that are due.
func wantNothingDone(t *testing.T, m impl.Machine, inbox []impl.Msg, until int64) {
	t.Helper()
	wantRun(t, m, inbox, until, impl.Step{Machine: machineClone(m)}, true)
}

// wantRunInParts: the run to each of these times, one from where the other one ended, and together they are the run to the last of them.
func wantRunInParts(t *testing.T, m impl.Machine, inbox []impl.Msg, untils ...int64) {
	t.Helper()
	whole, is := impl.RunTo(m, inbox, untils[len(untils)-1])
	if !is {
		t.Fatalf("RunTo of %+v, %v, %v: there is none", m, inbox, untils)
	}
	parts := impl.Step{Machine: machineClone(m)}
	for _, until := range untils {
		part, is := impl.RunTo(parts.Machine, inbox[parts.Used:], until)
		if !is {
			t.Fatalf("RunTo of %+v, %v: there is no part to %d", m, inbox, until)
		}
		parts = impl.Step{Machine: part.Machine, Out: append(parts.Out, part.Out...), Evs: append(parts.Evs, part.Evs...), Used: parts.Used + part.Used}
	}
	if !likeSteps(parts, whole) {
		t.Fatalf("RunTo of %+v, %v, in parts %v:\n got %+v\nwant %+v", m, inbox, untils, parts, whole)
	}
}

func TestRunNumbers(t *testing.T) {
	if impl.MaxUntil != 100000 {
		t.Fatalf("MaxUntil %d", impl.MaxUntil)
	}
}

// TestRunsToEachTime: a run ends with the first step that comes to until, behind it where that step goes past it.
func TestRunsToEachTime(t *testing.T) {
	m := quiet(cLda, 3, cPut, 249, cCal, 2)
	m.Sp = 192
	ends := []int64{500, 502, 505, 509, 512, 516, 519}
	at := 0
	for until := int64(490); until <= 519; until++ {
		for ends[at] < until {
			at++
		}
		want := impl.Step{Machine: atClock(m, ends[at])}
		x := &want.Machine
		x.Pc = []int64{0, 2, 4, 2, 4, 2, 4}[at]
		if at > 0 {
			x.A = 3
		}
		if at >= 3 {
			// Each cal pushes the place behind it.
			x.Sp, x.Ram = 191, slices.Clone(m.Ram)
			x.Ram[63] = 6
		}
		if at >= 5 {
			x.Sp, x.Ram[62] = 190, 6
		}
		if ends[at] >= 512 {
			// Mode 5: at each multiple of 32.
			x.Timer.Value = 10
		}
		for _, end := range []int64{505, 512, 519} {
			if end <= ends[at] {
				want.Evs = append(want.Evs, wentOut(end, 3))
			}
		}
		wantRun(t, m, nil, until, want, true)
		wantRun(t, m, []impl.Msg{keys(520, 1)}, until, want, true)
	}
}

// called: a machine that waits, halted, for keys, and tells them at 249; at 500, with 150 to be changed for a byte of which two bits are still to come.
func called() impl.Machine {
	code := make([]int64, 40)
	copy(code, []int64{cHlt, cJmp, 0})
	copy(code[32:], []int64{cGet, 248, cPut, 249, cRti})
	m := quiet(code...)
	m.Mask, m.Timer.Mode, m.Serial = 4, 0, waiting(150, 2)
	return m
}

// calledInbox: one Msg of before the Clock, some at once, all three Kinds, one that comes while the interrupt is answered.
func calledInbox() []impl.Msg {
	return []impl.Msg{beat(499, 0), beat(503, 1), answer(503, 1), keys(503, 200), beat(506, 1), answer(512, 0), keys(517, 201), keys(900, 202)}
}

// TestRunsWithAllKindsByHand: hlt to 501, 502, 503, called away to 508, get to 511, put to 514, rti to 518, called away to 523.
func TestRunsWithAllKindsByHand(t *testing.T) {
	m := called()
	outs := []impl.Msg{answer(507, 1), answer(511, 0), answer(514, 1)}
	evs := []impl.Ev{byteAt(503, 89), calledBy(508, 2), wentOut(514, 200), calledBy(523, 2), wentOut(529, 201)}
	for _, c := range []struct {
		until, clock, pc, used int64
		outs, evs              int
		put                    func(*impl.Machine)
	}{
		{501, 501, 1, 1, 1, 0, func(x *impl.Machine) {
			x.Halted, x.Serial = true, waiting(44, 1)
		}},
		{502, 502, 1, 1, 1, 0, func(x *impl.Machine) {
			x.Halted, x.Serial = true, waiting(44, 1)
		}},
		{503, 503, 1, 4, 2, 1, func(x *impl.Machine) {
			x.Halted, x.Flags, x.Keys = true, 6, 200
		}},
		{504, 508, 32, 5, 3, 2, func(x *impl.Machine) {
			x.Flags, x.Keys, x.Enabled, x.Sp = 2, 200, false, 179
		}},
		{511, 511, 34, 5, 3, 2, func(x *impl.Machine) {
			x.A, x.Flags, x.Keys, x.Enabled, x.Sp = 200, 2, 200, false, 179
		}},
		{512, 514, 36, 6, 3, 3, func(x *impl.Machine) {
			x.A, x.Flags, x.Keys, x.Enabled, x.Sp = 200, 2, 200, false, 179
		}},
		{515, 518, 1, 7, 3, 3, func(x *impl.Machine) {
			x.A, x.Flags, x.Keys = 200, 6, 201
		}},
		{519, 523, 32, 7, 3, 4, func(x *impl.Machine) {
			x.A, x.Flags, x.Keys, x.Enabled, x.Sp = 200, 2, 201, false, 179
		}},
		{534, 536, 0, 7, 3, 5, func(x *impl.Machine) {
			x.A, x.Flags, x.Keys = 201, 2, 201
		}},
	} {
		want := impl.Step{Machine: atClock(machineClone(m), c.clock), Out: outs[:c.outs], Evs: evs[:c.evs], Used: c.used}
		want.Machine.Pc, want.Machine.Serial = c.pc, idle(89)
		if c.clock > 503 {
			want.Machine.Ram[51] = 1
		}
		c.put(&want.Machine)
		wantRun(t, m, calledInbox(), c.until, want, true)
	}
}

// TestARunThatLeadsAByte: eight beats, each 32 behind the answer to the one before, and an interrupt of the byte.
func TestARunThatLeadsAByte(t *testing.T) {
	m := called()
	m.Mask, m.Serial = 2, leading(150, 8, 510)
	var inbox, outs []impl.Msg
	for i := range int64(8) {
		outs = append(outs, beat(518+48*i, []int64{1, 0, 0, 1, 0, 1, 1, 0}[i]))
		inbox = append(inbox, answer(526+48*i, []int64{0, 1, 1, 1, 0, 0, 1, 1}[i]))
	}
	want := impl.Step{Machine: atClock(m, 862), Out: outs, Used: 8, Evs: []impl.Ev{byteAt(862, 115)}}
	want.Machine.Halted, want.Machine.Pc, want.Machine.Flags, want.Machine.Serial = true, 1, 2, idle(115)
	wantRun(t, m, inbox, 862, want, true)
	want.Machine = machineClone(atClock(want.Machine, 867))
	want.Machine.Halted, want.Machine.Enabled, want.Machine.Flags = false, false, 0
	want.Machine.Sp, want.Machine.Ram[51], want.Machine.Pc = 179, 1, 24
	want.Evs = append(want.Evs, calledBy(867, 1))
	wantRun(t, m, inbox, 863, want, true)
	for until := int64(499); until <= 870; until++ {
		wantRunInParts(t, m, inbox, until, 870)
	}
}

func TestRunsOfWhoIsHaltedOrStuck(t *testing.T) {
	inbox := []impl.Msg{beat(510, 1), keys(512, 5), answer(512, 1), keys(590, 6), keys(601, 7)}
	slices.SortStableFunc(inbox, func(a, b impl.Msg) int { return int(3*(a.At-b.At) + a.Kind - b.Kind) })
	for mix := 1; mix <= 3; mix++ {
		m := quiet(cPut, 249)
		m.Halted, m.Stuck, m.Mask = mix&1 != 0, mix&2 != 0, 0
		for until := int64(500); until <= 600; until++ {
			want := impl.Step{Machine: atClock(m, until)}
			// Mode 5: at 512, 544 and 576.
			want.Machine.Timer.Value += until/32 - 15
			wantRun(t, m, nil, until, want, true)
		}
		want := impl.Step{Machine: atClock(m, 600), Used: 4, Out: []impl.Msg{answer(518, 1)}}
		want.Machine.Timer.Value, want.Machine.Keys, want.Machine.Flags = 12, 6, 4
		wantRun(t, m, inbox, 600, want, true)
		// Keys that are wanted wake only who is not stuck.
		m.Mask = 4
		if s := wantRunByWords(t, m, inbox, 600); m.Stuck != (len(s.Evs) == 0) {
			t.Fatalf("%+v: %v", m, s.Evs)
		}
	}
	// Who becomes so on the way goes on by the clock, too.
	for _, code := range []int64{cHlt, 31, 255} {
		m := quiet(cNop, code)
		m.Timer.Mode = 0
		want := impl.Step{Machine: atClock(m, 700)}
		want.Machine.Pc, want.Machine.Halted, want.Machine.Stuck = 1, code == cHlt, code != cHlt
		if code == cHlt {
			want.Machine.Pc = 2
		}
		wantRun(t, m, nil, 700, want, true)
	}
}

func TestUntilAtTheClock(t *testing.T) {
	for _, clock := range []int64{0, 1, 2, 500, 4096, 99998, 99999, 100000, 100001, 100002, 5000000, lastEnd - 1, lastEnd, impl.MaxClock} {
		for _, code := range [][]int64{{cNop}, {cPut, 249}, {cCal, 9}, {255}} {
			m := atClock(quiet(code...), clock)
			due := []impl.Msg{beat(clock/2, 1), keys(clock, 5), keys(clock+1, 6)}
			for _, inbox := range [][]impl.Msg{nil, due, {keys(lastArrival, 5)}} {
				for _, until := range []int64{0, 1, clock - 2, clock - 1, clock} {
					if until >= 0 && until <= impl.MaxUntil && until <= clock {
						wantNothingDone(t, m, inbox, until)
					}
				}
				if clock >= impl.MaxUntil {
					wantNothingDone(t, m, inbox, impl.MaxUntil)
					continue
				}
				// One more: one step, to its end.
				step, _ := stepByWords(m, inbox)
				wantRun(t, m, inbox, clock+1, step, true)
			}
		}
	}
}

func TestUntilAtItsEnds(t *testing.T) {
	m := atClock(quiet(cPut, 249), 0)
	m.Timer.Mode, m.Mask = 0, 0
	late := atClock(m, impl.MaxUntil-1)
	inbox := []impl.Msg{keys(0, 1), keys(impl.MaxUntil+2, 2), keys(impl.MaxUntil+3, 3)}
	for _, until := range wrongUntils {
		for _, x := range []impl.Machine{m, late, atClock(m, impl.MaxUntil), atClock(m, impl.MaxClock)} {
			wantRun(t, x, nil, until, impl.Step{}, false)
			wantRun(t, x, inbox, until, impl.Step{}, false)
		}
	}
	wantNothingDone(t, m, inbox, 0)
	wantNothingDone(t, late, inbox, 0)
	want := impl.Step{Machine: atClock(m, impl.MaxUntil+2), Used: 2, Evs: []impl.Ev{wentOut(impl.MaxUntil+2, 11)}}
	want.Machine.Pc, want.Machine.Keys, want.Machine.Flags = 2, 2, 4
	wantRun(t, late, inbox, impl.MaxUntil, want, true)
}

// TestTheLongestRun: from 0 to MaxUntil, in steps of three cycles, every other one of which tells something.
func TestTheLongestRun(t *testing.T) {
	m := atClock(quiet(cPut, 249, cJmp, 0), 0)
	m.Timer.Mode = 0
	want := impl.Step{Machine: atClock(m, 100002), Used: 200}
	for end := int64(3); end <= 100002; end += 6 {
		want.Evs = append(want.Evs, wentOut(end, 11))
	}
	// 33334 steps: the last one is a jmp.
	if len(want.Evs) != 16667 {
		t.Fatal(len(want.Evs))
	}
	var inbox []impl.Msg
	for i := range int64(200) {
		inbox = append(inbox, beat(1+500*i, 1))
		want.Out = append(want.Out, answer(9+500*i, 1))
	}
	wantRun(t, m, inbox, 100000, want, true)
	wantRunInParts(t, m, inbox, 33333, 100000)
}

// TestRunsOfFullInboxes: up to MaxInbox are used, one more is no inbox.
func TestRunsOfFullInboxes(t *testing.T) {
	m := quiet(cNop)
	m.Halted, m.Mask, m.Timer.Mode = true, 0, 0
	for _, size := range []int64{199, 200, 201} {
		var inbox []impl.Msg
		for i := range size {
			inbox = append(inbox, keys(501+i, i))
		}
		if size > 200 {
			wantRun(t, m, inbox, 1000, impl.Step{}, false)
			wantRun(t, m, inbox, 0, impl.Step{}, false)
			continue
		}
		for _, until := range []int64{501, 600, 700, 1000} {
			want := impl.Step{Machine: atClock(m, until), Used: min(until-500, size)}
			want.Machine.Keys, want.Machine.Flags = want.Used-1, 4
			wantRun(t, m, inbox, until, want, true)
		}
		wantRunInParts(t, m, inbox, 550, 699, 1000)
	}
	// All at once, too.
	want := impl.Step{Machine: atClock(m, 600), Used: 200}
	want.Machine.Keys, want.Machine.Flags = 9, 4
	wantRun(t, m, slices.Repeat([]impl.Msg{keys(599, 9)}, 200), 600, want, true)
	wantRun(t, m, slices.Repeat([]impl.Msg{keys(599, 9)}, 201), 600, impl.Step{}, false)
}

func TestNoRunOfWhatIsNotRight(t *testing.T) {
	inboxes := [][]impl.Msg{nil, {keys(501, 5)}, {{}}}
	for _, m := range wrongMachines() {
		for _, inbox := range inboxes {
			for _, until := range []int64{-1, 0, 499, 520, impl.MaxUntil, impl.MaxUntil + 1} {
				wantRun(t, m, inbox, until, impl.Step{}, false)
			}
		}
	}
	for _, inbox := range wrongInboxes() {
		for _, m := range []impl.Machine{quiet(cNop), atClock(quiet(cNop), impl.MaxClock), {}} {
			// Where no step is done, too.
			for _, until := range []int64{-1, 0, 500, 501, 520, impl.MaxUntil, impl.MaxUntil + 1} {
				wantRun(t, m, inbox, until, impl.Step{}, false)
			}
		}
	}
	// What would not come before until makes the inbox wrong all the same.
	wantRun(t, quiet(cNop), []impl.Msg{keys(501, 5), keys(lastArrival+1, 5)}, 502, impl.Step{}, false)
	wantRun(t, quiet(cNop), []impl.Msg{keys(501, 5), keys(600, 5), keys(599, 5)}, 502, impl.Step{}, false)
	wantRun(t, quiet(cNop), []impl.Msg{keys(math.MaxInt64, 5)}, 502, impl.Step{}, false)
}

// runDeed: an operation of two bytes that keeps a machine going within its first 16 places.
func (d *dice) runDeed() []int64 {
	switch d.below(6) {
	case 0:
		return []int64{cPut, 249}
	case 1:
		// The ports from the Data on; an order to the cable is one of them.
		return []int64{cPut, 240 + d.below(8)}
	case 2:
		return []int64{cGet, []int64{128 + d.below(64), 240 + d.below(9)}[d.below(2)]}
	case 3:
		return []int64{cJpz + d.below(4), 2 * d.below(8)}
	case 4:
		return []int64{[]int64{cLdb, cAnd, cXor, cAdd}[d.below(4)], d.below(256)}
	}
	return []int64{cLda, 128 + d.below(128)}
}

// runMachine: a loop of these dice's, with an answer to each interrupt; it is on the cable, at a clock that a run can start from.
func (d *dice) runMachine() impl.Machine {
	code := make([]int64, 40)
	for place := 0; place < 40; place += 2 {
		copy(code[place:], d.runDeed())
	}
	copy(code[14:], []int64{cJmp, 0})
	for _, entry := range []int{16, 24, 32} {
		copy(code[entry:], []int64{cPut, 249, cPsh, cPop, cRti})
	}
	m := atClock(quiet(code...), d.below(impl.MaxUntil-1000))
	m.Enabled, m.Mask, m.Flags, m.Timer.Mode = d.below(4) != 0, d.below(8), d.below(8), d.below(8)
	m.Serial = waiting(d.below(256), 1+d.below(8))
	if d.below(2) == 0 {
		m.Serial = leading(d.below(256), 1+d.below(8), m.Clock+1+d.below(20))
	}
	return m
}

// runInbox: size Msgs, of which the first ones may be from before the clock.
func (d *dice) runInbox(clock, size int64) []impl.Msg {
	var inbox []impl.Msg
	at := max(0, clock-5)
	for range size {
		at += d.below(7)
		inbox = sortedWith(inbox, d.msg(at))
	}
	return inbox
}

// TestRunsInParts: runs of many machines, cut at many times; each whole run is what the document's words make of it.
func TestRunsInParts(t *testing.T) {
	d := dice(88675123)
	evs, msgs, outs, behind := map[int64]int{}, map[int64]int{}, map[int64]int{}, 0
	for range 200 {
		m := d.runMachine()
		inbox := d.runInbox(m.Clock, d.below(3)*20)
		until := m.Clock + 60 + d.below(100)
		whole := wantRunByWords(t, m, inbox, until)
		if whole.Machine.Clock > until {
			behind++
		}
		for _, ev := range whole.Evs {
			evs[ev.Kind]++
		}
		for _, out := range whole.Out {
			outs[out.Kind]++
		}
		for _, msg := range inbox[:whole.Used] {
			msgs[msg.Kind]++
		}
		for cut := max(0, m.Clock-1); cut <= until; cut += 1 + d.below(20) {
			wantRunInParts(t, m, inbox, cut, until)
		}
		wantRunInParts(t, m, inbox, m.Clock+10, m.Clock+11, m.Clock+10, m.Clock+15, m.Clock+50, until)
	}
	for kind := int64(1); kind <= 3; kind++ {
		if evs[kind] < 50 || msgs[kind] < 50 || kind < 3 && outs[kind] < 50 || behind < 50 {
			t.Fatalf("too few: Evs %v, Msgs %v, Outs %v, %d ended behind", evs, msgs, outs, behind)
		}
	}
}

func TestEveryCutOfOneRun(t *testing.T) {
	m := called()
	for first := int64(490); first <= 560; first++ {
		for second := first; second <= 560; second++ {
			wantRunInParts(t, m, calledInbox(), first, second)
		}
		wantRunInParts(t, m, calledInbox(), first, first, 560)
	}
	wantRunByWords(t, m, calledInbox(), 1000)
	wantRunInParts(t, m, calledInbox(), 899, 900, 1000)
	wantRunInParts(t, m, calledInbox(), 0, 500, 100000)
}

func wantKeysIn(t *testing.T, list []impl.Msg, want bool) {
	t.Helper()
	given, whole := msgsWithRoom(list)
	before := slices.Clone(whole)
	if impl.KeysIn(given) != want || impl.KeysIn(list) != want {
		t.Fatalf("KeysIn of %v: want %v", list, want)
	}
	if !slices.Equal(whole, before) {
		t.Fatalf("KeysIn of %v changes it", list)
	}
}

func TestKeysByHand(t *testing.T) {
	for _, c := range []struct {
		list []impl.Msg
		want bool
	}{
		{nil, true}, {[]impl.Msg{}, true},
		{[]impl.Msg{keys(1, 0)}, true}, {[]impl.Msg{keys(0, 0)}, false}, {[]impl.Msg{keys(-1, 0)}, false}, {[]impl.Msg{keys(0, 255)}, false},
		{[]impl.Msg{keys(0, 5), keys(1, 5)}, false}, {[]impl.Msg{keys(0, 5), keys(0, 6), keys(9, 6)}, false}, {[]impl.Msg{keys(1, 5), keys(0, 5)}, false},
		{[]impl.Msg{keys(1, 5), keys(1, 4), keys(2, 9)}, true}, {[]impl.Msg{keys(2, 5), keys(1, 9)}, false},
		{[]impl.Msg{keys(lastArrival, 255)}, true}, {[]impl.Msg{keys(lastArrival+1, 255)}, false},
		{[]impl.Msg{beat(5, 1)}, false}, {[]impl.Msg{answer(5, 1)}, false}, {[]impl.Msg{beat(0, 1)}, false},
		{[]impl.Msg{beat(5, 1), keys(5, 1)}, false}, {[]impl.Msg{keys(5, 1), beat(6, 1)}, false}, {[]impl.Msg{keys(5, 1), answer(6, 1), keys(7, 1)}, false},
		{[]impl.Msg{{}}, false}, {[]impl.Msg{{At: 5, Kind: 4}}, false}, {[]impl.Msg{{At: 5, Value: 1}}, false}, {[]impl.Msg{keys(5, 256)}, false}, {[]impl.Msg{keys(5, -1)}, false},
	} {
		wantKeysIn(t, c.list, c.want)
	}
}

func TestKeysOfManyLists(t *testing.T) {
	for _, size := range []int{1, 2, 199, 200, 201, 1000} {
		list := slices.Repeat([]impl.Msg{keys(7, 1)}, size)
		wantKeysIn(t, list, size <= 200)
		// One among them that is none, wherever it stands, its place in the order being right.
		for _, place := range []int{0, size / 2, size - 1} {
			for _, other := range []impl.Msg{beat(7, 1), answer(7, 0)} {
				mixed := slices.Concat(slices.Repeat([]impl.Msg{keys(6, 1)}, place), []impl.Msg{other}, slices.Repeat([]impl.Msg{keys(8, 1)}, size-place-1))
				if size <= 200 {
					wantInboxOk(t, mixed, true)
				}
				wantKeysIn(t, mixed, false)
			}
		}
	}
	for _, m := range rightMsgs() {
		wantKeysIn(t, []impl.Msg{m}, m.Kind == 3 && m.At > 0)
	}
	for _, list := range wrongInboxes() {
		wantKeysIn(t, list, false)
	}
	for n := int64(-300); n <= 600; n++ {
		wantKeysIn(t, []impl.Msg{keys(3, n)}, n >= 0 && n <= 255)
		wantKeysIn(t, []impl.Msg{keys(n, 3)}, n > 0)
	}
}

// spoilStep: its lists, the spare room behind them, too.
func spoilStep(s impl.Step) {
	fill(s.Machine.Rom, -5)
	fill(s.Machine.Ram, -6)
	spoil(s.Out)
	evs := s.Evs[:cap(s.Evs)]
	for i := range evs {
		evs[i] = impl.Ev{At: -9, Kind: -9, Value: -9}
	}
}

func TestRunsShareNothing(t *testing.T) {
	full := slices.Repeat([]impl.Msg{beat(501, 1)}, 200)
	for _, given := range [][]impl.Msg{{}, {keys(501, 5)}, calledInbox(), full, {keys(5, 1), keys(4, 1)}} {
		for _, m := range append(sharedSamples(), called()) {
			for _, until := range []int64{-1, 0, 500, 501, 530, 560} {
				inbox, whole := msgsWithRoom(given)
				before := slices.Clone(whole)
				wantSharesNothing(t, m, func(m impl.Machine) impl.Machine {
					s, _ := impl.RunTo(m, inbox, until)
					return s.Machine
				})
				first, _ := impl.RunTo(m, inbox, until)
				second, _ := impl.RunTo(m, inbox, until)
				want := stepCopy(second)
				spoilStep(first)
				if !likeSteps(second, want) || !slices.Equal(whole, before) {
					t.Fatalf("RunTo of %+v, %v, %d: answers share memory, or what was given is changed", m, given, until)
				}
				spoil(whole)
				if !likeSteps(second, want) {
					t.Fatalf("RunTo of %+v, %v, %d: the answer shares memory with its inbox", m, given, until)
				}
			}
		}
	}
}

// TestGoingOnChangesNothingBefore: a run from where another one ended leaves that one's answer as it was.
func TestGoingOnChangesNothingBefore(t *testing.T) {
	m, inbox := called(), calledInbox()
	for cut := int64(499); cut <= 540; cut++ {
		first, _ := impl.RunTo(m, inbox, cut)
		want := stepCopy(first)
		second, _ := impl.RunTo(first.Machine, inbox[first.Used:], 540)
		if !likeSteps(first, want) || !slices.Equal(inbox, calledInbox()) {
			t.Fatalf("cut at %d: the first run is changed to %+v, or the inbox to %v", cut, first, inbox)
		}
		spoilStep(second)
		if !likeSteps(first, want) || !slices.Equal(inbox, calledInbox()) {
			t.Fatalf("cut at %d: the second run shares memory with the first one, or with the inbox", cut)
		}
	}
}

func TestRunsOfOneMemory(t *testing.T) {
	for _, until := range []int64{0, 500, 501, 510, 530} {
		for code := range int64(32) {
			m := filledMachine(64)
			m.Rom[0], m.Rom[1] = code, 150
			m.Rom[63] = plainCheck(m.Rom[:63])
			m.Ram, m.Pc = m.Rom, 0
			before := slices.Clone(m.Rom)
			s := wantRunByWords(t, m, []impl.Msg{beat(501, 1), keys(501, 5)}, until)
			wantOwnMemory(t, s.Machine)
			if !slices.Equal(m.Rom, before) {
				t.Fatalf("code %d to %d: the answer shares memory", code, until)
			}
		}
	}
}
