package tests

import (
	"math"
	"reflect"
	"slices"
	"testing"

	"loop.example/g00741/impl"
)

// namedPlaces: the edges of what stands where.
var namedPlaces = []int64{0, 1, 2, 3, 126, 127, 128, 129, 190, 191, 192, 193, 239, 240, 241, 242, 243, 244, 245, 246, 247, 248, 249, 250, 254, 255}

func romFor(size int) []int64 {
	code := sampleCode(size - 1)
	return append(code, plainCheck(code))
}

// filledMachine: a right machine of a rom of that size, no two of whose bytes are easily taken for each other.
func filledMachine(size int) impl.Machine {
	ram := make([]int64, 64)
	for i := range ram {
		ram[i] = int64(i*37+11) % 256
	}
	return impl.Machine{
		Rom: romFor(size), Ram: ram, A: 11, B: 22, Pc: 33, Sp: 180,
		Zero: true, Enabled: true, Flags: 3, Mask: 6, Keys: 77,
		Timer:  impl.Timer{Count: 500, Value: 9, Start: 8, Mode: 5},
		Serial: leading(44, 3, 510), Clock: 500,
	}
}

func atClock(m impl.Machine, clock int64) impl.Machine {
	m.Clock, m.Timer.Count = clock, clock
	return m
}

func machineClone(m impl.Machine) impl.Machine {
	m.Rom, m.Ram = slices.Clone(m.Rom), slices.Clone(m.Ram)
	return m
}

// someSerials: every state that the document names, one of each.
func someSerials() []impl.Serial {
	return []impl.Serial{idle(0), idle(255), waiting(44, 8), waiting(200, 1), leading(44, 8, 532), leading(129, 1, 0), leading(127, 5, impl.MaxClock), asking(44, 8), asking(128, 1)}
}

// sampleMachines: roms of many sizes, a timer that runs and one that does not, a Serial in every state, at many clocks.
func sampleMachines(t *testing.T) []impl.Machine {
	t.Helper()
	var list []impl.Machine
	clocks := []int64{0, 1, 500, 4095, impl.MaxClock - 33, impl.MaxClock - 32, impl.MaxClock - 31, impl.MaxClock}
	for i, size := range []int{2, 3, 4, 64, 127, 128} {
		for k, s := range someSerials() {
			m := atClock(filledMachine(size), clocks[(i+k)%len(clocks)])
			m.Serial = s
			m.Timer.Mode = int64(i+k) % 8
			m.Flags, m.Mask = int64(k)%8, int64(7-i)%8
			m.Halted, m.Stuck, m.Carry = k%2 == 0, k%3 == 0, i%2 == 0
			list = append(list, m)
		}
	}
	fresh, is := impl.NewMachine(romFor(5))
	if !is {
		t.Fatal("no new machine")
	}
	return append(list, fresh)
}

// readByWords: what stands there, worked out by the document's words alone.
func readByWords(m impl.Machine, place int64) int64 {
	if place < 128 {
		if place < int64(len(m.Rom)) {
			return m.Rom[place]
		}
		return 255
	}
	if place < 192 {
		return m.Ram[place-128]
	}
	switch place {
	case 240:
		return m.Serial.Data
	case 241:
		told := int64(0)
		if m.Serial.Busy {
			told += 128
		}
		if m.Serial.Lead {
			told++
		}
		return told
	case 242:
		return m.Timer.Count / 16 % 256
	case 243:
		return m.Timer.Value
	case 244:
		return m.Timer.Start
	case 245:
		return m.Timer.Mode
	case 246:
		return m.Flags
	case 247:
		return m.Mask
	case 248:
		return m.Keys
	}
	return 255
}

// orderedByWords: the Serial after n went to 241.
func orderedByWords(m impl.Machine, n int64) impl.Serial {
	switch {
	case n <= 127:
		return idle(m.Serial.Data)
	case n%2 == 0:
		return waiting(m.Serial.Data, 8)
	case m.Clock+32 > impl.MaxClock:
		return impl.Serial{}
	}
	return leading(m.Serial.Data, 8, m.Clock+32)
}

// writtenByWords: the machine after n went there, worked out by the document's words alone.
func writtenByWords(m impl.Machine, place, n int64) impl.Machine {
	m = machineClone(m)
	if place >= 128 && place <= 191 {
		m.Ram[place-128] = n
	}
	switch place {
	case 240:
		m.Serial.Data = n
	case 241:
		m.Serial = orderedByWords(m, n)
	case 243:
		m.Timer.Value = n
	case 244:
		m.Timer.Start = n
	case 245:
		m.Timer.Mode = n % 8
	case 246:
		m.Flags = n % 8
	case 247:
		m.Mask = n % 8
	}
	return m
}

func likeMachines(a, b impl.Machine) bool {
	if !slices.Equal(a.Rom, b.Rom) || !slices.Equal(a.Ram, b.Ram) {
		return false
	}
	// An empty list and nil are the same value, but not to DeepEqual.
	a.Rom, a.Ram, b.Rom, b.Ram = nil, nil, nil, nil
	return reflect.DeepEqual(a, b)
}

func wantRead(t *testing.T, m impl.Machine, place, want int64) {
	t.Helper()
	if got := impl.ReadAt(m, place); got != want {
		t.Fatalf("ReadAt of %+v, %d: got %d, want %d", m, place, got, want)
	}
}

func wantWritten(t *testing.T, m impl.Machine, place, n int64, want impl.Machine) impl.Machine {
	t.Helper()
	got := impl.WrittenAt(m, place, n)
	if !likeMachines(got, want) {
		t.Fatalf("WrittenAt of %+v, %d, %d: got %+v, want %+v", m, place, n, got, want)
	}
	return got
}

func wantAllRead(t *testing.T, m impl.Machine) {
	t.Helper()
	for place := range int64(256) {
		wantRead(t, m, place, readByWords(m, place))
	}
}

// wantRefused: it is not right, whatever is asked of it.
func wantRefused(t *testing.T, m impl.Machine) {
	t.Helper()
	if impl.MachineOk(m) {
		t.Fatalf("MachineOk of %+v: want false", m)
	}
	for _, place := range append(append([]int64{}, namedPlaces...), -1, 256, math.MaxInt64, math.MinInt64) {
		wantRead(t, m, place, -1)
		for _, n := range []int64{0, 7, 128, 129, 255, -1, 256} {
			wantWritten(t, m, place, n, impl.Machine{})
		}
	}
}

func TestMemorySizes(t *testing.T) {
	if impl.RamSize != 64 || impl.RamEnd != 192 {
		t.Fatalf("RamSize %d, RamEnd %d", impl.RamSize, impl.RamEnd)
	}
}

func TestNewMachinesOfManyRoms(t *testing.T) {
	var roms [][]int64
	for size := 2; size <= 128; size++ {
		roms = append(roms, romFor(size))
	}
	for n := range int64(256) {
		roms = append(roms, []int64{n, (n + 25) % 256})
	}
	for _, rom := range roms {
		m, is := impl.NewMachine(rom)
		want := impl.Machine{Rom: rom, Ram: make([]int64, 64), Sp: 192}
		if !is || !likeMachines(m, want) || !impl.MachineOk(m) {
			t.Fatalf("NewMachine of %v: got %+v %v", rom, m, is)
		}
		wantAllRead(t, m)
	}
}

// wrongRoms: too short, too long, with a wrong check, with what is no byte number.
func wrongRoms() [][]int64 {
	wrong := [][]int64{nil, {}, {25}, {0}, {1, 2}, {0, 24}, {0, 26}, {0, 25, 25}, {256, 25}, {-1, 24}, {231, 256}, {230, -1}, {-1, -1}, {0, math.MaxInt64}, {math.MinInt64, 25}}
	wrong = append(wrong, romFor(129), romFor(1000))
	for place := range 128 {
		rom := romFor(128)
		rom[place] = (rom[place] + 1) % 256
		wrong = append(wrong, rom)
	}
	return wrong
}

func TestNoMachineOfNoRom(t *testing.T) {
	for _, rom := range wrongRoms() {
		if m, is := impl.NewMachine(rom); is || !likeMachines(m, impl.Machine{}) {
			t.Fatalf("NewMachine of %v: got %+v %v, want the zero Machine and false", rom, m, is)
		}
	}
}

// TestRightMachinesAtTheEdges: each field at both its ends; MachineOk, and what can be read is read.
func TestRightMachinesAtTheEdges(t *testing.T) {
	list := sampleMachines(t)
	with := func(put func(*impl.Machine, int64), ends ...int64) {
		for _, n := range ends {
			m := filledMachine(4)
			put(&m, n)
			list = append(list, m)
		}
	}
	with(func(m *impl.Machine, n int64) { m.A = n }, edgeBytes...)
	with(func(m *impl.Machine, n int64) { m.B = n }, edgeBytes...)
	with(func(m *impl.Machine, n int64) { m.Pc = n }, edgeBytes...)
	with(func(m *impl.Machine, n int64) { m.Sp = n }, edgeBytes...)
	with(func(m *impl.Machine, n int64) { m.Keys = n }, edgeBytes...)
	with(func(m *impl.Machine, n int64) { m.Flags = n }, 0, 1, 2, 3, 4, 5, 6, 7)
	with(func(m *impl.Machine, n int64) { m.Mask = n }, 0, 1, 2, 3, 4, 5, 6, 7)
	with(func(m *impl.Machine, n int64) { m.Ram[0], m.Ram[63] = n, 255-n }, edgeBytes...)
	with(func(m *impl.Machine, n int64) { m.Clock, m.Timer.Count = n, n }, 0, 1, impl.MaxClock-1, impl.MaxClock)
	with(func(m *impl.Machine, n int64) { m.Timer.Value, m.Timer.Start = n, 255-n }, edgeBytes...)
	with(func(m *impl.Machine, n int64) { m.Timer.Mode = n }, 0, 1, 2, 3, 4, 5, 6, 7)
	for _, s := range rightSerials() {
		m := filledMachine(4)
		m.Serial = s
		list = append(list, m)
	}
	// What is told by yes or no is right either way.
	for mix := range 32 {
		m := filledMachine(4)
		m.Zero, m.Carry, m.Enabled, m.Halted, m.Stuck = mix&1 != 0, mix&2 != 0, mix&4 != 0, mix&8 != 0, mix&16 != 0
		list = append(list, m)
	}
	for _, m := range list {
		if !impl.MachineOk(m) {
			t.Fatalf("MachineOk of %+v: want true", m)
		}
		wantAllRead(t, m)
	}
}

// wrongFields: right machines but for one field.
func wrongFields() []impl.Machine {
	var list []impl.Machine
	with := func(put func(*impl.Machine, int64), near ...int64) {
		for _, n := range append(near, farNumbers...) {
			m := filledMachine(4)
			put(&m, n)
			list = append(list, m)
		}
	}
	with(func(m *impl.Machine, n int64) { m.A = n }, -1, 256)
	with(func(m *impl.Machine, n int64) { m.B = n }, -1, 256)
	with(func(m *impl.Machine, n int64) { m.Pc = n }, -1, 256)
	with(func(m *impl.Machine, n int64) { m.Sp = n }, -1, 256)
	with(func(m *impl.Machine, n int64) { m.Keys = n }, -1, 256)
	with(func(m *impl.Machine, n int64) { m.Flags = n }, -1, 8, 15, 255)
	with(func(m *impl.Machine, n int64) { m.Mask = n }, -1, 8, 15, 255)
	with(func(m *impl.Machine, n int64) { m.Ram[0] = n }, -1, 256)
	with(func(m *impl.Machine, n int64) { m.Ram[31] = n }, -1, 256)
	with(func(m *impl.Machine, n int64) { m.Ram[63] = n }, -1, 256)
	with(func(m *impl.Machine, n int64) { m.Rom[0] = n }, -1, 256)
	with(func(m *impl.Machine, n int64) { m.Rom[3] = n }, -1, 256)
	// The Clock must be the Timer's Count, and both in range.
	with(func(m *impl.Machine, n int64) { m.Clock = n }, -1, 0, 499, 501, impl.MaxClock, impl.MaxClock+1)
	with(func(m *impl.Machine, n int64) { m.Timer.Count = n }, -1, 0, 499, 501, impl.MaxClock, impl.MaxClock+1)
	with(func(m *impl.Machine, n int64) { m.Clock, m.Timer.Count = n, n }, -1, impl.MaxClock+1)
	return list
}

// wrongParts: right machines but for their rom, Ram, Timer or Serial.
func wrongParts() []impl.Machine {
	var list []impl.Machine
	with := func(put func(*impl.Machine)) {
		m := filledMachine(4)
		put(&m)
		list = append(list, m)
	}
	for _, size := range []int{0, 1, 62, 63, 65, 128, 1000} {
		with(func(m *impl.Machine) { m.Ram = make([]int64, size) })
	}
	with(func(m *impl.Machine) { m.Ram = nil })
	// What lies in the spare room behind is no part of the Ram, nor of the rom.
	with(func(m *impl.Machine) { m.Ram = make([]int64, 63, 64) })
	with(func(m *impl.Machine) { m.Rom = m.Rom[:3] })
	for _, rom := range [][]int64{nil, {}, {25}, {0, 24}, {0, 26}, {0, 25 + 256}, {256, 25}, romFor(129)} {
		with(func(m *impl.Machine) { m.Rom = rom })
	}
	for place := range 128 {
		with(func(m *impl.Machine) {
			m.Rom = romFor(128)
			m.Rom[place] = (m.Rom[place] + 255) % 256
		})
	}
	for _, x := range wrongTimers() {
		with(func(m *impl.Machine) { m.Timer, m.Clock = x, x.Count })
	}
	for _, s := range wrongSerials() {
		with(func(m *impl.Machine) { m.Serial = s })
	}
	return list
}

func wrongMachines() []impl.Machine {
	return append(append(wrongFields(), wrongParts()...), impl.Machine{})
}

func TestWrongMachines(t *testing.T) {
	for _, m := range wrongMachines() {
		wantRefused(t, m)
	}
}

func TestReadsAtTheNamedPlaces(t *testing.T) {
	m := filledMachine(4)
	m.Rom = []int64{5, 6, 7, 43}
	for _, c := range [][2]int64{
		{0, 5}, {1, 6}, {2, 7}, {3, 43}, {4, 255}, {127, 255}, {128, 11}, {129, 48}, {191, (63*37 + 11) % 256}, {192, 255}, {239, 255},
		{240, 44}, {241, 129}, {242, 31}, {243, 9}, {244, 8}, {245, 5}, {246, 3}, {247, 6}, {248, 77}, {249, 255}, {250, 255}, {255, 255},
	} {
		wantRead(t, m, c[0], c[1])
	}
}

func TestReadsAtTheEndOfTheRom(t *testing.T) {
	for size := 2; size <= 128; size++ {
		m := filledMachine(size)
		for i, n := range m.Rom {
			wantRead(t, m, int64(i), n)
		}
		for place := int64(size); place < 128; place++ {
			wantRead(t, m, place, 255)
		}
		wantRead(t, m, 128, m.Ram[0])
	}
	// What lies behind the rom in memory is not read.
	m := filledMachine(4)
	m.Rom, _ = withRoom([]int64{0, 25})
	wantRead(t, m, 1, 25)
	wantRead(t, m, 2, 255)
	wantRead(t, m, 127, 255)
}

// TestNoughtIsNotNothing: a 0 that stands somewhere is read as 0, not as what is read where nothing stands.
func TestNoughtIsNotNothing(t *testing.T) {
	m, _ := impl.NewMachine([]int64{0, 25})
	for place := int64(240); place <= 248; place++ {
		wantRead(t, m, place, 0)
	}
	wantRead(t, m, 0, 0)
	wantRead(t, m, 128, 0)
	wantRead(t, m, 191, 0)
}

func TestReadsTheCount(t *testing.T) {
	for _, c := range [][2]int64{
		{0, 0}, {1, 0}, {15, 0}, {16, 1}, {31, 1}, {32, 2}, {4079, 254}, {4080, 255}, {4095, 255}, {4096, 0}, {4112, 1},
		{impl.MaxClock - 1, 159}, {impl.MaxClock, 160},
	} {
		wantRead(t, atClock(filledMachine(4), c[0]), 242, c[1])
	}
}

func TestReadsHowTheCableIs(t *testing.T) {
	m := filledMachine(4)
	for _, s := range rightSerials() {
		m.Serial = s
		want := int64(0)
		switch {
		case s.Lead:
			want = 129
		case s.Busy:
			want = 128
		}
		wantRead(t, m, 241, want)
		wantRead(t, m, 240, s.Data)
	}
}

func TestWritesEveryPlace(t *testing.T) {
	numbers := []int64{0, 1, 7, 8, 9, 15, 126, 127, 128, 129, 200, 254, 255}
	for _, m := range sampleMachines(t) {
		for place := range int64(256) {
			for _, n := range numbers {
				got := wantWritten(t, m, place, n, writtenByWords(m, place, n))
				if !impl.MachineOk(got) {
					t.Fatalf("WrittenAt of %+v, %d, %d is not right: %+v", m, place, n, got)
				}
			}
		}
	}
}

// TestReadsAgainAfterEachWrite: all places, after every number went to every one of them.
func TestReadsAgainAfterEachWrite(t *testing.T) {
	m := filledMachine(4)
	for place := range int64(256) {
		for n := range int64(256) {
			got := wantWritten(t, m, place, n, writtenByWords(m, place, n))
			if !impl.MachineOk(got) {
				t.Fatalf("%d at %d: not right", n, place)
			}
			if n%16 == 15 {
				wantAllRead(t, got)
			} else {
				wantRead(t, got, place, readByWords(got, place))
			}
		}
	}
}

func TestWhatIsWrittenIntoRamStands(t *testing.T) {
	for _, m := range sampleMachines(t) {
		for place := int64(128); place <= 191; place++ {
			for _, n := range edgeBytes {
				wantRead(t, impl.WrittenAt(m, place, n), place, n)
			}
			got := impl.WrittenAt(m, place, 99)
			for _, other := range namedPlaces {
				if other != place {
					wantRead(t, got, other, impl.ReadAt(m, other))
				}
			}
		}
	}
	m := filledMachine(128)
	for place := int64(128); place <= 191; place++ {
		m = impl.WrittenAt(m, place, 255-place/2)
	}
	for place := int64(128); place <= 191; place++ {
		wantRead(t, m, place, 255-place/2)
	}
}

func TestNothingIsWrittenElsewhere(t *testing.T) {
	for _, m := range sampleMachines(t) {
		for place := range int64(256) {
			if place >= 128 && place <= 191 || place >= 240 && place <= 247 && place != 242 {
				continue
			}
			for _, n := range edgeBytes {
				wantWritten(t, m, place, n, m)
			}
		}
	}
}

func TestOrdersToTheCable(t *testing.T) {
	m := filledMachine(4)
	for _, s := range rightSerials() {
		m.Serial = s
		for _, c := range []struct {
			n    int64
			want impl.Serial
		}{
			{0, idle(s.Data)}, {1, idle(s.Data)}, {126, idle(s.Data)}, {127, idle(s.Data)},
			{128, waiting(s.Data, 8)}, {129, leading(s.Data, 8, 532)},
			{254, waiting(s.Data, 8)}, {255, leading(s.Data, 8, 532)},
		} {
			want := machineClone(m)
			want.Serial = c.want
			wantWritten(t, m, 241, c.n, want)
		}
	}
	for _, s := range someSerials() {
		m.Serial = s
		for n := range int64(256) {
			wantWritten(t, m, 241, n, writtenByWords(m, 241, n))
		}
	}
}

// TestOnlyAnOrderChangesTheCable: whatever goes elsewhere, a byte that is on its way stays so, and goes on from where it was.
func TestOnlyAnOrderChangesTheCable(t *testing.T) {
	m := filledMachine(4)
	for _, s := range rightSerials() {
		m.Serial = s
		for _, place := range []int64{0, 128, 191, 192, 240, 242, 243, 244, 245, 246, 247, 248, 249, 255} {
			for _, n := range []int64{0, 127, 129, 255} {
				want := s
				if place == 240 {
					want.Data = n
				}
				if got := impl.WrittenAt(m, place, n); got.Serial != want {
					t.Fatalf("%d at %d of %+v: got %+v", n, place, s, got.Serial)
				}
			}
		}
	}
}

func TestOrdersAtTheLastClock(t *testing.T) {
	for _, s := range someSerials() {
		m := filledMachine(4)
		m.Serial = s
		last := atClock(m, 999999968)
		for _, n := range []int64{129, 131, 255} {
			want := machineClone(last)
			want.Serial = leading(s.Data, 8, 1000000000)
			wantWritten(t, last, 241, n, want)
		}
		for _, clock := range []int64{999999969, 999999970, impl.MaxClock - 1, impl.MaxClock} {
			late := atClock(m, clock)
			for _, n := range []int64{129, 131, 255} {
				want := machineClone(late)
				want.Serial = impl.Serial{}
				if got := wantWritten(t, late, 241, n, want); !impl.MachineOk(got) {
					t.Fatalf("at %d: not right", clock)
				}
			}
			// Who does not lead has no beat that could be too late.
			want := machineClone(late)
			want.Serial = waiting(s.Data, 8)
			wantWritten(t, late, 241, 128, want)
			want.Serial = idle(s.Data)
			wantWritten(t, late, 241, 127, want)
		}
	}
}

func TestWrongPlacesAndNumbers(t *testing.T) {
	for _, m := range sampleMachines(t) {
		for _, wrong := range wrongBytes {
			wantRead(t, m, wrong, -1)
			for _, n := range append(append([]int64{}, edgeBytes...), -1, 256) {
				wantWritten(t, m, wrong, n, impl.Machine{})
			}
			for _, place := range namedPlaces {
				wantWritten(t, m, place, wrong, impl.Machine{})
			}
		}
	}
}

// TestARightMachineStaysRight: long runs of writes, one upon the other.
func TestARightMachineStaysRight(t *testing.T) {
	for _, m := range sampleMachines(t) {
		next := uint32(2463534242)
		for range 600 {
			next = next*1664525 + 1013904223
			n := int64(next >> 24)
			place := int64(next>>14) % 256
			if next>>8&1 == 0 {
				place = 240 + place%10
			}
			m = wantWritten(t, m, place, n, writtenByWords(m, place, n))
			if !impl.MachineOk(m) {
				t.Fatalf("after %d at %d: %+v", n, place, m)
			}
		}
		wantAllRead(t, m)
	}
}

func fill(list []int64, n int64) {
	list = list[:cap(list)]
	for i := range list {
		list[i] = n
	}
}

// wantOwnMemory: the machine's lists share nothing with each other; they are spent by it.
func wantOwnMemory(t *testing.T, m impl.Machine) {
	t.Helper()
	ram := slices.Clone(m.Ram)
	fill(m.Rom, -5)
	if !slices.Equal(m.Ram, ram) {
		t.Fatal("Rom and Ram of one answer share memory")
	}
	rom := slices.Clone(m.Rom)
	fill(m.Ram, -6)
	if !slices.Equal(m.Rom, rom) {
		t.Fatal("Ram and Rom of one answer share memory")
	}
}

func TestNewMachinesShareNothing(t *testing.T) {
	for _, size := range []int{2, 3, 64, 127, 128} {
		rom, whole := withRoom(romFor(size))
		before := slices.Clone(whole)
		first, _ := impl.NewMachine(rom)
		second, _ := impl.NewMachine(rom)
		if !slices.Equal(whole, before) {
			t.Fatalf("NewMachine of %v wrote into what was given: %v", rom, whole)
		}
		want := machineClone(second)
		wantOwnMemory(t, first)
		if !likeMachines(second, want) || !slices.Equal(whole, before) {
			t.Fatalf("a rom of %d: two answers share memory, or one and its argument", size)
		}
		fill(whole, -9)
		if !likeMachines(second, want) {
			t.Fatalf("a rom of %d: the answer shares memory with its argument", size)
		}
	}
}

// wantSharesNothing: what the call makes of m shares no memory with it, nor with what it makes another time; m stays, and the spare room behind it.
func wantSharesNothing(t *testing.T, m impl.Machine, call func(impl.Machine) impl.Machine) {
	t.Helper()
	rom, wholeRom := withRoom(m.Rom)
	ram, wholeRam := withRoom(m.Ram)
	beforeRom, beforeRam := slices.Clone(wholeRom), slices.Clone(wholeRam)
	m.Rom, m.Ram = rom, ram
	first, second := call(m), call(m)
	want := machineClone(second)
	wantOwnMemory(t, first)
	if !slices.Equal(wholeRom, beforeRom) || !slices.Equal(wholeRam, beforeRam) {
		t.Fatalf("%+v: what was given is changed", m)
	}
	if !likeMachines(second, want) {
		t.Fatalf("%+v: two answers share memory", m)
	}
	fill(wholeRom, -9)
	fill(wholeRam, -9)
	if !likeMachines(second, want) {
		t.Fatalf("%+v: the answer shares memory with its argument", m)
	}
}

func TestWrittenMachinesShareNothing(t *testing.T) {
	for _, size := range []int{2, 64, 128} {
		for place := range int64(256) {
			for _, n := range []int64{0, 127, 129, 255} {
				wantSharesNothing(t, filledMachine(size), func(m impl.Machine) impl.Machine { return impl.WrittenAt(m, place, n) })
			}
		}
	}
}

// TestRomAndRamOfOneMemory: a machine both of whose lists are the same memory is read as it is, and its answers have two.
func TestRomAndRamOfOneMemory(t *testing.T) {
	for place := range int64(256) {
		m := filledMachine(64)
		m.Ram = m.Rom
		before := slices.Clone(m.Rom)
		got := wantWritten(t, m, place, 99, writtenByWords(m, place, 99))
		if !slices.Equal(m.Rom, before) {
			t.Fatalf("99 at %d: what was given is changed", place)
		}
		wantOwnMemory(t, got)
		if !slices.Equal(m.Rom, before) {
			t.Fatalf("99 at %d: the answer shares memory", place)
		}
	}
}

func TestReadingChangesNothing(t *testing.T) {
	wrong := filledMachine(4)
	wrong.Ram[5] = 256
	for _, m := range append(sampleMachines(t), wrong) {
		rom, wholeRom := withRoom(m.Rom)
		ram, wholeRam := withRoom(m.Ram)
		beforeRom, beforeRam := slices.Clone(wholeRom), slices.Clone(wholeRam)
		m.Rom, m.Ram = rom, ram
		first := impl.MachineOk(m)
		for place := int64(-1); place <= 256; place++ {
			wantRead(t, m, place, impl.ReadAt(m, place))
		}
		if impl.MachineOk(m) != first || !slices.Equal(wholeRom, beforeRom) || !slices.Equal(wholeRam, beforeRam) {
			t.Fatalf("%+v is changed", m)
		}
	}
}
