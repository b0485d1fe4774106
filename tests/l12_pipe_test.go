package tests

import (
	"math"
	"slices"
	"testing"

	"loop.example/g00741/impl"
)

func promise(at int64) impl.Note { return impl.Note{Promise: true, At: at} }

func carries(m impl.Msg) impl.Note { return impl.Note{Msg: m} }

func pipeOf(room int64, notes ...impl.Note) impl.Pipe {
	return impl.Pipe{Cap: room, Items: slices.Clone(notes)}
}

func pipeCopy(p impl.Pipe) impl.Pipe { return pipeOf(p.Cap, p.Items...) }

func likePipes(a, b impl.Pipe) bool { return a.Cap == b.Cap && slices.Equal(a.Items, b.Items) }

// someNotes: right ones, of both sorts and all three Kinds, no two of them alike.
func someNotes(count int) []impl.Note {
	var list []impl.Note
	for i := range int64(count) {
		list = append(list, []impl.Note{promise(i), carries(beat(i, 1)), carries(answer(i, 0)), carries(keys(i, 255)), carries(beat(i, 0))}[i%5])
	}
	return list
}

// note: mostly such that no other one is like it.
func (d *dice) note() impl.Note {
	if d.below(3) == 0 {
		return promise(d.below(lastArrival + 1))
	}
	return carries(d.msg(d.below(lastArrival + 1)))
}

func rightNotes() []impl.Note {
	var list []impl.Note
	for _, at := range []int64{0, 1, 500, impl.MaxClock, impl.MaxClock + 1, lastArrival - 1, lastArrival} {
		list = append(list, promise(at))
	}
	for _, m := range rightMsgs() {
		list = append(list, carries(m))
	}
	return list
}

// wrongNotes: right ones but for one field, of the Msg or of the Note.
func wrongNotes() []impl.Note {
	list := []impl.Note{{}, {At: 5}, {Promise: true, At: -1, Msg: beat(5, 1)}}
	for _, at := range append([]int64{-1, -2, -100, lastArrival + 1, lastArrival + 2}, farNumbers...) {
		list = append(list, promise(at))
	}
	for _, n := range append([]int64{-1, 1, 2, 3, 4, 255}, farNumbers...) {
		for _, m := range []impl.Msg{{At: n}, {Kind: n}, {Value: n}} {
			list = append(list, impl.Note{Promise: true, At: 9, Msg: m}, impl.Note{Promise: true, Msg: m})
		}
	}
	for _, m := range rightMsgs() {
		list = append(list, impl.Note{Promise: true, Msg: m}, impl.Note{Promise: true, At: m.At, Msg: m})
	}
	for _, m := range []impl.Msg{beat(0, 0), beat(7, 1), answer(7, 0), keys(7, 255)} {
		for _, at := range append([]int64{-1, 1, 2, 7, impl.MaxClock, lastArrival}, farNumbers...) {
			list = append(list, impl.Note{At: at, Msg: m})
		}
	}
	for _, m := range wrongMsgs() {
		list = append(list, carries(m))
	}
	return list
}

// wrongRooms: none of them is a Cap.
var wrongRooms = append([]int64{-1, -2, -8, 0, 9, 10, 16, 255, 256, 257}, farNumbers...)

func wantPipeOk(t *testing.T, p impl.Pipe, want bool) {
	t.Helper()
	before := pipeCopy(p)
	if impl.PipeOk(p) != want {
		t.Fatalf("PipeOk of %+v: want %v", p, want)
	}
	if !likePipes(p, before) {
		t.Fatalf("PipeOk of %+v: it is changed to %+v", before, p)
	}
}

func wantPipeWith(t *testing.T, p impl.Pipe, n impl.Note, want impl.Pipe, wantIs bool) impl.Pipe {
	t.Helper()
	before := pipeCopy(p)
	got, is := impl.PipeWith(p, n)
	if !likePipes(got, want) || is != wantIs {
		t.Fatalf("PipeWith of %+v, %+v:\n got %+v %v\nwant %+v %v", p, n, got, is, want, wantIs)
	}
	if !likePipes(p, before) {
		t.Fatalf("PipeWith of %+v, %+v: it is changed to %+v", before, n, p)
	}
	return got
}

func wantPipeFirst(t *testing.T, p, want impl.Pipe, wantNote impl.Note, wantIs bool) impl.Pipe {
	t.Helper()
	before := pipeCopy(p)
	got, n, is := impl.PipeFirst(p)
	if !likePipes(got, want) || n != wantNote || is != wantIs {
		t.Fatalf("PipeFirst of %+v:\n got %+v %+v %v\nwant %+v %+v %v", p, got, n, is, want, wantNote, wantIs)
	}
	if !likePipes(p, before) {
		t.Fatalf("PipeFirst of %+v: it is changed to %+v", before, p)
	}
	return got
}

// wantPut: there is room, and it goes behind the others.
func wantPut(t *testing.T, p impl.Pipe, n impl.Note) impl.Pipe {
	t.Helper()
	got := wantPipeWith(t, p, n, pipeOf(p.Cap, append(slices.Clone(p.Items), n)...), true)
	wantPipeOk(t, got, true)
	return got
}

// wantNotPut: it stays as it is.
func wantNotPut(t *testing.T, p impl.Pipe, n impl.Note) {
	t.Helper()
	wantPipeWith(t, p, n, pipeCopy(p), false)
}

// wantTaken: that one comes out, and the others stay in their order.
func wantTaken(t *testing.T, p impl.Pipe, n impl.Note) impl.Pipe {
	t.Helper()
	got := wantPipeFirst(t, p, pipeOf(p.Cap, p.Items[1:]...), n, true)
	wantPipeOk(t, got, true)
	return got
}

// wantNoneTaken: it is empty, and stays so.
func wantNoneTaken(t *testing.T, p impl.Pipe) {
	t.Helper()
	wantPipeFirst(t, p, pipeOf(p.Cap), impl.Note{}, false)
}

func wantWrongPipe(t *testing.T, p impl.Pipe) {
	t.Helper()
	wantPipeOk(t, p, false)
	wantPipeFirst(t, p, impl.Pipe{}, impl.Note{}, false)
	for _, n := range []impl.Note{promise(5), carries(beat(5, 1)), {}, promise(-1), {At: 1, Msg: keys(5, 5)}} {
		wantPipeWith(t, p, n, impl.Pipe{}, false)
	}
}

func TestPipeNumbers(t *testing.T) {
	if impl.MaxCap != 8 {
		t.Fatalf("MaxCap %d", impl.MaxCap)
	}
}

func TestRightNotes(t *testing.T) {
	for _, n := range rightNotes() {
		if !impl.NoteOk(n) {
			t.Fatalf("%+v is right", n)
		}
		wantTaken(t, wantPut(t, impl.Pipe{Cap: 1}, n), n)
		wantPut(t, pipeOf(3, promise(4), n), n)
	}
}

func TestWrongNotes(t *testing.T) {
	for _, n := range wrongNotes() {
		if impl.NoteOk(n) {
			t.Fatalf("%+v is wrong", n)
		}
		wantNotPut(t, impl.Pipe{Cap: 1}, n)
		wantNotPut(t, pipeOf(3, promise(4), carries(beat(9, 1))), n)
		wantNotPut(t, pipeOf(2, promise(4), promise(4)), n)
		wantWrongPipe(t, pipeOf(1, n))
	}
}

// TestTheEdgesOfNotesByHand: the times and fields that the document names, written out.
func TestTheEdgesOfNotesByHand(t *testing.T) {
	for i, c := range []struct {
		n    impl.Note
		want bool
	}{
		{impl.Note{Promise: true, At: -1}, false}, {impl.Note{Promise: true}, true}, {impl.Note{Promise: true, At: 1}, true},
		{impl.Note{Promise: true, At: 1000000100}, true}, {impl.Note{Promise: true, At: 1000000101}, false},
		{impl.Note{Msg: impl.Msg{At: -1, Kind: 1, Value: 1}}, false}, {impl.Note{Msg: impl.Msg{Kind: 1, Value: 1}}, true},
		{impl.Note{Msg: impl.Msg{At: 1000000100, Kind: 2}}, true}, {impl.Note{Msg: impl.Msg{At: 1000000101, Kind: 2}}, false},
		{impl.Note{Promise: true, At: 3, Msg: impl.Msg{At: 3}}, false}, {impl.Note{Promise: true, At: 3, Msg: impl.Msg{Kind: 1}}, false},
		{impl.Note{Promise: true, At: 3, Msg: impl.Msg{Value: 1}}, false}, {impl.Note{Promise: true, Msg: impl.Msg{Kind: 1}}, false},
		{impl.Note{At: 1, Msg: impl.Msg{At: 1, Kind: 3, Value: 1}}, false}, {impl.Note{Msg: impl.Msg{At: 1, Kind: 3, Value: 1}}, true},
		{impl.Note{At: -1, Msg: impl.Msg{At: 1, Kind: 3, Value: 1}}, false},
		{impl.Note{Msg: impl.Msg{At: 1, Kind: 3, Value: 255}}, true}, {impl.Note{Msg: impl.Msg{At: 1, Kind: 3, Value: 256}}, false},
		{impl.Note{Msg: impl.Msg{At: 1, Kind: 1, Value: 2}}, false}, {impl.Note{Msg: impl.Msg{At: 1, Kind: 2, Value: -1}}, false},
		{impl.Note{Msg: impl.Msg{At: 1, Value: 1}}, false}, {impl.Note{Msg: impl.Msg{At: 1, Kind: 4, Value: 1}}, false},
		{impl.Note{}, false},
	} {
		if impl.NoteOk(c.n) != c.want {
			t.Fatalf("%d: NoteOk of %+v: want %v", i, c.n, c.want)
		}
	}
}

// noteOkByWords: a promise that carries nothing, or a Msg that needs no time beside its own.
func noteOkByWords(n impl.Note) bool {
	timely := func(at int64) bool { return at >= 0 && at <= 1000000100 }
	if n.Promise {
		return timely(n.At) && n.Msg.At == 0 && n.Msg.Kind == 0 && n.Msg.Value == 0
	}
	most := map[int64]int64{1: 1, 2: 1, 3: 255}[n.Msg.Kind]
	return n.At == 0 && timely(n.Msg.At) && most > 0 && n.Msg.Value >= 0 && n.Msg.Value <= most
}

// TestNotesOfEveryMix: each field near each of its ends, with each of the others.
func TestNotesOfEveryMix(t *testing.T) {
	times := []int64{math.MinInt64, -1, 0, 1, lastArrival, lastArrival + 1, math.MaxInt64}
	right := 0
	for _, is := range []bool{false, true} {
		for _, at := range times {
			for _, msgAt := range times {
				for kind := int64(-1); kind <= 4; kind++ {
					for _, value := range []int64{-1, 0, 1, 2, 255, 256} {
						n := impl.Note{Promise: is, At: at, Msg: impl.Msg{At: msgAt, Kind: kind, Value: value}}
						want := noteOkByWords(n)
						if impl.NoteOk(n) != want {
							t.Fatalf("NoteOk of %+v: want %v", n, want)
						}
						wantPipeOk(t, pipeOf(8, promise(3), n), want)
						if want {
							right++
						}
					}
				}
			}
		}
	}
	// Three times for a promise; for a message three times with two bits, twice, and with four bytes.
	if right != 3+3*(2+2)+3*4 {
		t.Fatalf("%d are right", right)
	}
}

func TestAPipeByHand(t *testing.T) {
	a, b, c, d := promise(9), carries(beat(30, 1)), carries(keys(2, 77)), carries(answer(30, 0))
	p := impl.Pipe{Cap: 3}
	p = wantPipeWith(t, p, a, impl.Pipe{Cap: 3, Items: []impl.Note{a}}, true)
	p = wantPipeWith(t, p, b, impl.Pipe{Cap: 3, Items: []impl.Note{a, b}}, true)
	p = wantPipeFirst(t, p, impl.Pipe{Cap: 3, Items: []impl.Note{b}}, a, true)
	p = wantPipeWith(t, p, c, impl.Pipe{Cap: 3, Items: []impl.Note{b, c}}, true)
	p = wantPipeWith(t, p, d, impl.Pipe{Cap: 3, Items: []impl.Note{b, c, d}}, true)
	p = wantPipeWith(t, p, a, impl.Pipe{Cap: 3, Items: []impl.Note{b, c, d}}, false)
	p = wantPipeFirst(t, p, impl.Pipe{Cap: 3, Items: []impl.Note{c, d}}, b, true)
	p = wantPipeWith(t, p, a, impl.Pipe{Cap: 3, Items: []impl.Note{c, d, a}}, true)
	p = wantPipeFirst(t, p, impl.Pipe{Cap: 3, Items: []impl.Note{d, a}}, c, true)
	p = wantPipeFirst(t, p, impl.Pipe{Cap: 3, Items: []impl.Note{a}}, d, true)
	p = wantPipeFirst(t, p, impl.Pipe{Cap: 3}, a, true)
	wantPipeFirst(t, p, impl.Pipe{Cap: 3}, impl.Note{}, false)
}

// TestNoOrderButTheirOwn: later ones may have earlier times, or lower Kinds, and those that are alike are all there.
func TestNoOrderButTheirOwn(t *testing.T) {
	for _, notes := range [][]impl.Note{
		{promise(9), promise(3), promise(6), promise(0)},
		{carries(keys(9, 1)), carries(beat(3, 1)), carries(answer(9, 1)), carries(beat(9, 0)), promise(1)},
		{promise(5), promise(5), promise(5)},
		{carries(beat(5, 1)), carries(beat(5, 1)), carries(beat(5, 0)), carries(beat(5, 1))},
		{promise(0), carries(beat(0, 0)), promise(0), carries(keys(0, 0)), carries(answer(0, 0)), promise(0)},
	} {
		p := impl.Pipe{Cap: 8}
		for _, n := range notes {
			p = wantPut(t, p, n)
		}
		for _, n := range notes {
			p = wantTaken(t, p, n)
		}
		wantNoneTaken(t, p)
	}
}

// queue: a pipe, and what went into it and came out of it.
type queue struct {
	pipe    impl.Pipe
	in, out []impl.Note
}

func (q *queue) put(t *testing.T, n impl.Note) {
	t.Helper()
	if len(q.in)-len(q.out) == int(q.pipe.Cap) {
		wantNotPut(t, q.pipe, n)
		return
	}
	q.pipe, q.in = wantPut(t, q.pipe, n), append(q.in, n)
}

func (q *queue) take(t *testing.T) {
	t.Helper()
	if len(q.in) == len(q.out) {
		wantNoneTaken(t, q.pipe)
		return
	}
	n := q.in[len(q.out)]
	q.pipe, q.out = wantTaken(t, q.pipe, n), append(q.out, n)
}

// wantInOrder: what is still in it taken out, all that came out is what went in.
func (q *queue) wantInOrder(t *testing.T) {
	t.Helper()
	for len(q.pipe.Items) > 0 {
		q.take(t)
	}
	if !slices.Equal(q.in, q.out) {
		t.Fatalf("in went %+v, out came %+v", q.in, q.out)
	}
}

// TestAllTurns: each way to put and take so many times, for each Cap that they can fill.
func TestAllTurns(t *testing.T) {
	const turns = 9
	notes := someNotes(turns)
	for room := int64(1); room <= 8; room++ {
		for way := range 1 << turns {
			q := queue{pipe: impl.Pipe{Cap: room}}
			for turn := range turns {
				if way>>turn&1 == 0 {
					q.put(t, notes[turn])
				} else {
					q.take(t)
				}
			}
			q.wantInOrder(t)
		}
	}
}

func TestWhateverTheTurns(t *testing.T) {
	d := dice(88675123)
	for room := int64(1); room <= 8; room++ {
		// More is put than taken, as much, and less.
		for _, puts := range []int64{7, 5, 3} {
			q := queue{pipe: impl.Pipe{Cap: room}}
			for range 800 {
				if d.below(10) < puts {
					q.put(t, d.note())
				} else {
					q.take(t)
				}
			}
			if len(q.in) < 100 {
				t.Fatalf("Cap %d: only %d went in", room, len(q.in))
			}
			q.wantInOrder(t)
		}
	}
}

func TestFilledAndEmptiedManyTimes(t *testing.T) {
	for room := int64(1); room <= 8; room++ {
		q := queue{pipe: impl.Pipe{Cap: room}}
		notes := someNotes(300 * int(room))
		for len(notes) > 0 {
			for _, n := range notes[:room] {
				q.put(t, n)
			}
			wantNotPut(t, q.pipe, promise(7))
			for range room {
				q.take(t)
			}
			wantNoneTaken(t, q.pipe)
			notes = notes[room:]
		}
		q.wantInOrder(t)
		if len(q.out) != 300*int(room) {
			t.Fatalf("Cap %d: only %d came out", room, len(q.out))
		}
	}
}

// TestAlwaysFull: one out, one in, so that the last place is always taken.
func TestAlwaysFull(t *testing.T) {
	for room := int64(1); room <= 8; room++ {
		notes := someNotes(100)
		q := queue{pipe: impl.Pipe{Cap: room}}
		for _, n := range notes[:room] {
			q.put(t, n)
		}
		for _, n := range notes[room:] {
			wantNotPut(t, q.pipe, n)
			q.take(t)
			q.put(t, n)
		}
		q.wantInOrder(t)
	}
}

func TestEveryCapWithEveryCount(t *testing.T) {
	for room := int64(-2); room <= 11; room++ {
		for count := range 12 {
			p := pipeOf(room, someNotes(count)...)
			if room < 1 || room > 8 || int64(count) > room {
				wantWrongPipe(t, p)
				continue
			}
			wantPipeOk(t, p, true)
			for _, n := range []impl.Note{promise(50), carries(beat(1, 1)), carries(answer(2, 0)), carries(keys(3, 7))} {
				if int64(count) == room {
					wantNotPut(t, p, n)
				} else {
					wantPut(t, p, n)
				}
			}
			if count == 0 {
				wantNoneTaken(t, p)
			} else {
				wantTaken(t, p, someNotes(1)[0])
			}
		}
	}
}

// TestFullPipes: as it is, whatever is put in.
func TestFullPipes(t *testing.T) {
	for room := int64(1); room <= 8; room++ {
		p := pipeOf(room, someNotes(int(room))...)
		for _, n := range slices.Concat(rightNotes(), wrongNotes()) {
			wantNotPut(t, p, n)
		}
	}
}

func TestEmptyPipes(t *testing.T) {
	for room := int64(1); room <= 8; room++ {
		for _, p := range []impl.Pipe{{Cap: room}, {Cap: room, Items: []impl.Note{}}, {Cap: room, Items: someNotes(3)[:0]}} {
			wantPipeOk(t, p, true)
			wantNoneTaken(t, p)
			wantNotPut(t, p, impl.Note{})
			wantTaken(t, wantPut(t, p, promise(5)), promise(5))
		}
	}
}

func TestPipesOfNoCap(t *testing.T) {
	wantWrongPipe(t, impl.Pipe{})
	for _, room := range wrongRooms {
		for _, count := range []int{0, 1, 2, 8, 9, 300} {
			wantWrongPipe(t, pipeOf(room, someNotes(count)...))
		}
	}
}

func TestPipesWithTooMany(t *testing.T) {
	for room := int64(1); room <= 8; room++ {
		for _, count := range []int64{room + 1, room + 2, 9, 16, 300} {
			wantWrongPipe(t, pipeOf(room, someNotes(int(count))...))
		}
	}
}

// TestPipesWithAWrongNote: at each place, among right ones.
func TestPipesWithAWrongNote(t *testing.T) {
	for _, wrong := range wrongNotes() {
		for count := 1; count <= 8; count++ {
			for place := range count {
				p := pipeOf(8, someNotes(count)...)
				p.Items[place] = wrong
				wantPipeOk(t, p, false)
			}
		}
		wantWrongPipe(t, pipeOf(8, promise(3), wrong, promise(4)))
		wantWrongPipe(t, pipeOf(2, promise(3), wrong))
	}
}

// noteMark: no call makes such a one.
var noteMark = impl.Note{At: -9, Msg: impl.Msg{At: -9, Kind: -9, Value: -9}}

// pipeWithRoom: the pipe with spare room behind its Items, where right Notes stand, and the whole of that memory.
func pipeWithRoom(p impl.Pipe) (impl.Pipe, []impl.Note) {
	whole := slices.Concat(p.Items, slices.Repeat([]impl.Note{promise(123)}, 9))
	return impl.Pipe{Cap: p.Cap, Items: whole[:len(p.Items)]}, whole
}

// spoilNotes: all of them, the spare room behind them, too.
func spoilNotes(list []impl.Note) {
	list = list[:cap(list)]
	for i := range list {
		list[i] = noteMark
	}
}

// pipesToShare: of each Cap and count, and those that are not right.
func pipesToShare() []impl.Pipe {
	list := []impl.Pipe{{}, pipeOf(0, someNotes(1)...), pipeOf(9, someNotes(3)...), pipeOf(4, impl.Note{}), pipeOf(4, promise(3), promise(-1))}
	for room := int64(1); room <= 8; room++ {
		for count := range room + 2 {
			list = append(list, pipeOf(room, someNotes(int(count))...))
		}
	}
	return list
}

// pipeAnswers: what PipeWith, with a Note that is right and with others, and PipeFirst make of a Pipe.
func pipeAnswers() []func(impl.Pipe) impl.Pipe {
	list := []func(impl.Pipe) impl.Pipe{func(p impl.Pipe) impl.Pipe {
		rest, _, _ := impl.PipeFirst(p)
		return rest
	}}
	for _, n := range []impl.Note{promise(44), carries(keys(5, 5)), {}, promise(-1), {At: 1, Msg: beat(5, 1)}} {
		list = append(list, func(p impl.Pipe) impl.Pipe {
			with, _ := impl.PipeWith(p, n)
			return with
		})
	}
	return list
}

func TestPipesShareNothing(t *testing.T) {
	for _, p := range pipesToShare() {
		for i, call := range pipeAnswers() {
			given, whole := pipeWithRoom(p)
			before := slices.Clone(whole)
			first, second := call(given), call(given)
			want := pipeCopy(second)
			if !slices.Equal(whole, before) || !likePipes(given, p) {
				t.Fatalf("call %d of %+v: what was given is changed", i, p)
			}
			spoilNotes(first.Items)
			if !slices.Equal(whole, before) || !likePipes(second, want) {
				t.Fatalf("call %d of %+v: answers share memory", i, p)
			}
			spoilNotes(whole)
			if !likePipes(second, want) {
				t.Fatalf("call %d of %+v: the answer shares memory with its argument", i, p)
			}
		}
	}
}

// TestAskingOfPipesChangesNothing: the spare room behind the Items, too.
func TestAskingOfPipesChangesNothing(t *testing.T) {
	for _, p := range pipesToShare() {
		given, whole := pipeWithRoom(p)
		before := slices.Clone(whole)
		first, second := impl.PipeOk(given), impl.PipeOk(given)
		if first != second || !slices.Equal(whole, before) {
			t.Fatalf("PipeOk of %+v: %v, then %v; memory %+v", p, first, second, whole)
		}
	}
}

// TestRoomBehindTellsNothing: what a call answers hangs on the Items alone.
func TestRoomBehindTellsNothing(t *testing.T) {
	for _, p := range pipesToShare() {
		given, whole := pipeWithRoom(p)
		for i := len(given.Items); i < len(whole); i++ {
			whole[i] = noteMark
		}
		if impl.PipeOk(given) != impl.PipeOk(p) {
			t.Fatalf("PipeOk of %+v is another one with room behind it", p)
		}
		for i, call := range pipeAnswers() {
			if got, want := call(given), call(clippedPipe(p)); !likePipes(got, want) {
				t.Fatalf("call %d of %+v: %+v with room behind it, else %+v", i, p, got, want)
			}
		}
	}
}

// clippedPipe: the pipe with no room behind its Items.
func clippedPipe(p impl.Pipe) impl.Pipe {
	return impl.Pipe{Cap: p.Cap, Items: slices.Clip(slices.Clone(p.Items))}
}

// TestTwoWaysFromOnePipe: each goes on by itself, and the one that they come from stays.
func TestTwoWaysFromOnePipe(t *testing.T) {
	for room := int64(2); room <= 8; room++ {
		start := impl.Pipe{Cap: room}
		for count := range int(room) - 1 {
			kept := pipeCopy(start)
			left, right, rest := start, start, start
			for i := int64(count); i < room; i++ {
				left = wantPut(t, left, promise(100+i))
				right = wantPut(t, right, carries(keys(100+i, i)))
			}
			for _, n := range kept.Items {
				left, right, rest = wantTaken(t, left, n), wantTaken(t, right, n), wantTaken(t, rest, n)
			}
			for i := int64(count); i < room; i++ {
				left = wantTaken(t, left, promise(100+i))
				right = wantTaken(t, right, carries(keys(100+i, i)))
			}
			if !likePipes(start, kept) {
				t.Fatalf("%+v is changed to %+v", kept, start)
			}
			start = wantPut(t, start, someNotes(count + 1)[count])
		}
	}
}
