package tests

import (
	"slices"
	"testing"

	"loop.example/g00741/impl"
)

// The codes by the document's table, where a test speaks of one alone.
const (
	cNop, cLda, cLdb, cMab, cMba = 0, 1, 2, 3, 4
	cGet, cPut, cGib, cPib       = 5, 6, 7, 8
	cAdd, cAdb, cSub, cCmp       = 9, 10, 11, 12
	cAnd, cXor, cRol, cRor       = 13, 14, 15, 16
	cInb, cDeb                   = 17, 18
	cJmp, cJpz, cJnz, cJpc       = 19, 20, 21, 22
	cCal, cRet, cPsh, cPop       = 23, 24, 25, 26
	cEni, cDis, cRti, cHlt       = 27, 28, 29, 30
)

// coded: a right machine that stands ahead of this code.
func coded(code ...int64) impl.Machine {
	m := filledMachine(2)
	m.Rom = append(slices.Clone(code), plainCheck(code))
	m.Pc = 0
	return m
}

// ramCoded: likewise, the code being in its Ram.
func ramCoded(place int64, code ...int64) impl.Machine {
	m := filledMachine(4)
	copy(m.Ram[place-128:], code)
	m.Pc = place
	return m
}

// laid: the machine (with a rom of MaxRom) at whose place n is read, where there can be one.
func laid(m impl.Machine, place, n int64) impl.Machine {
	m = machineClone(m)
	switch {
	case place < 127:
		m.Rom[place] = n
		m.Rom[127] = plainCheck(m.Rom[:127])
	case place == 127:
		// The check is what it is because of the others; one of them gives way.
		m.Rom[5] = (m.Rom[5] + n - m.Rom[127] + 256) % 256
		m.Rom[127] = n
	case place < 192:
		m.Ram[place-128] = n
	case place == 240:
		m.Serial.Data = n
	case place == 241 && n == 0:
		m.Serial = idle(m.Serial.Data)
	case place == 242:
		m = atClock(m, n*16+7)
	case place == 243:
		m.Timer.Value = n
	case place == 244:
		m.Timer.Start = n
	case place == 245:
		m.Timer.Mode = n % 8
	case place == 246:
		m.Flags = n % 8
	case place == 247:
		m.Mask = n % 8
	case place == 248:
		m.Keys = n
	}
	return m
}

// byWords: one operation, worked out by the document's words alone.
type byWords struct {
	m   impl.Machine
	out int64
}

func (w *byWords) goesTo(place, n int64) {
	w.m = writtenByWords(w.m, place, n)
	if place == 249 {
		w.out = n
	}
}

func (w *byWords) pushed(n int64) {
	w.m.Sp = (w.m.Sp + 255) % 256
	w.goesTo(w.m.Sp, n)
}

func (w *byWords) popped() int64 {
	n := readByWords(w.m, w.m.Sp)
	w.m.Sp = (w.m.Sp + 1) % 256
	return n
}

func (w *byWords) sets(n int64, carry bool) int64 {
	n = (n + 256) % 256
	w.m.Zero, w.m.Carry = n == 0, carry
	return n
}

// bitwise tells bits apart one by one, so that it leans on no operator that the program leans on.
func bitwise(a, b int64, take func(x, y int64) bool) int64 {
	sum := int64(0)
	for bit := int64(1); bit < 256; bit *= 2 {
		if take(a/bit%2, b/bit%2) {
			sum += bit
		}
	}
	return sum
}

func bothBits(a, b int64) int64 {
	return bitwise(a, b, func(x, y int64) bool { return x+y == 2 })
}

func oneBit(a, b int64) int64 {
	return bitwise(a, b, func(x, y int64) bool { return x+y == 1 })
}

// reckons: the codes that set Zero and Carry.
func (w *byWords) reckons(code, n int64) {
	m := &w.m
	switch code {
	case cAdd:
		m.A = w.sets(m.A+n, m.A+n > 255)
	case cAdb:
		m.A = w.sets(m.A+m.B, m.A+m.B > 255)
	case cSub:
		m.A = w.sets(m.A-n, m.A < n)
	case cCmp:
		w.sets(m.A-n, m.A < n)
	case cAnd:
		m.A = w.sets(bothBits(m.A, n), false)
	case cXor:
		m.A = w.sets(oneBit(m.A, n), false)
	case cRol:
		m.A = w.sets(m.A*2%256+m.A/128, m.A > 127)
	case cRor:
		m.A = w.sets(m.A/2+m.A%2*128, m.A%2 == 1)
	case cInb:
		m.B = w.sets(m.B+1, false)
	case cDeb:
		m.B = w.sets(m.B-1, false)
	}
}

func (w *byWords) moves(code, n int64) {
	m := &w.m
	switch code {
	case cLda:
		m.A = n
	case cLdb:
		m.B = n
	case cMab:
		m.A = m.B
	case cMba:
		m.B = m.A
	case cGet:
		m.A = readByWords(*m, n)
	case cPut:
		w.goesTo(n, m.A)
	case cGib:
		m.A = readByWords(*m, m.B)
	case cPib:
		w.goesTo(m.B, m.A)
	case cPsh:
		w.pushed(m.A)
	case cPop:
		m.A = w.popped()
	}
}

func (w *byWords) leads(code, n int64) {
	switch code {
	case cJmp:
		w.m.Pc = n
	case cJpz:
		if w.m.Zero {
			w.m.Pc = n
		}
	case cJnz:
		if !w.m.Zero {
			w.m.Pc = n
		}
	case cJpc:
		if w.m.Carry {
			w.m.Pc = n
		}
	case cCal:
		w.pushed(w.m.Pc)
		w.m.Pc = n
	case cRet:
		w.m.Pc = w.popped()
	case cEni:
		w.m.Enabled = true
	case cDis:
		w.m.Enabled = false
	case cRti:
		w.m.Pc = w.popped()
		w.m.Enabled = true
	case cHlt:
		w.m.Halted = true
	}
}

func executedByWords(m impl.Machine) (impl.Machine, int64, int64) {
	w := &byWords{machineClone(m), -1}
	if m.Halted || m.Stuck {
		return w.m, 1, -1
	}
	code := readByWords(m, m.Pc)
	if code > lastCode {
		w.m.Stuck = true
		return w.m, 1, -1
	}
	row := opRows[code]
	n := readByWords(m, (m.Pc+1)%256)
	w.m.Pc = (m.Pc + row.size) % 256
	w.reckons(code, n)
	w.moves(code, n)
	w.leads(code, n)
	return w.m, row.cost, w.out
}

func wantExecuted(t *testing.T, m, want impl.Machine, wantCost, wantOut int64) impl.Machine {
	t.Helper()
	before := machineClone(m)
	got, cost, out := impl.Executed(m)
	if !likeMachines(got, want) || cost != wantCost || out != wantOut {
		t.Fatalf("Executed of %+v: got %+v %d %d, want %+v %d %d", m, got, cost, out, want, wantCost, wantOut)
	}
	if !likeMachines(m, before) {
		t.Fatalf("Executed of %+v: its argument is changed to %+v", before, m)
	}
	return got
}

// wantByWords: it does what the document's words tell, stays right, and no time goes by.
func wantByWords(t *testing.T, m impl.Machine) impl.Machine {
	t.Helper()
	want, cost, out := executedByWords(m)
	got := wantExecuted(t, m, want, cost, out)
	if !impl.MachineOk(got) {
		t.Fatalf("Executed of %+v is not right: %+v", m, got)
	}
	if got.Clock != m.Clock || got.Timer.Count != m.Timer.Count {
		t.Fatalf("Executed of %+v: time went by: %+v", m, got)
	}
	return got
}

// wantChanged: nothing is changed but what is put, and Pc, which is size more.
func wantChanged(t *testing.T, m impl.Machine, size, cost, out int64, put func(*impl.Machine)) impl.Machine {
	t.Helper()
	want := machineClone(m)
	want.Pc = (m.Pc + size) % 256
	put(&want)
	return wantExecuted(t, m, want, cost, out)
}

func unchanged(*impl.Machine) {}

// TestEachCodeByHand: each line of the table on one machine (A 11, B 22, Sp 180, Zero, Enabled), its answer written out.
func TestEachCodeByHand(t *testing.T) {
	const n = 150
	for _, c := range []struct {
		code, size, cost int64
		put              func(*impl.Machine)
	}{
		{0, 1, 1, unchanged},
		{1, 2, 2, func(m *impl.Machine) { m.A = 150 }},
		{2, 2, 2, func(m *impl.Machine) { m.B = 150 }},
		{3, 1, 1, func(m *impl.Machine) { m.A = 22 }},
		{4, 1, 1, func(m *impl.Machine) { m.B = 11 }},
		{5, 2, 3, func(m *impl.Machine) { m.A = (22*37 + 11) % 256 }},
		{6, 2, 3, func(m *impl.Machine) { m.Ram[22] = 11 }},
		{7, 1, 2, func(m *impl.Machine) { m.A = 255 }},
		{8, 1, 2, unchanged},
		{9, 2, 2, func(m *impl.Machine) { m.A, m.Zero = 161, false }},
		{10, 1, 1, func(m *impl.Machine) { m.A, m.Zero = 33, false }},
		{11, 2, 2, func(m *impl.Machine) { m.A, m.Zero, m.Carry = 117, false, true }},
		{12, 2, 2, func(m *impl.Machine) { m.Zero, m.Carry = false, true }},
		{13, 2, 2, func(m *impl.Machine) { m.A, m.Zero = 2, false }},
		{14, 2, 2, func(m *impl.Machine) { m.A, m.Zero = 157, false }},
		{15, 1, 1, func(m *impl.Machine) { m.A, m.Zero = 22, false }},
		{16, 1, 1, func(m *impl.Machine) { m.A, m.Zero, m.Carry = 133, false, true }},
		{17, 1, 1, func(m *impl.Machine) { m.B, m.Zero = 23, false }},
		{18, 1, 1, func(m *impl.Machine) { m.B, m.Zero = 21, false }},
		{19, 2, 3, func(m *impl.Machine) { m.Pc = 150 }},
		{20, 2, 3, func(m *impl.Machine) { m.Pc = 150 }},
		{21, 2, 3, unchanged},
		{22, 2, 3, unchanged},
		{23, 2, 4, func(m *impl.Machine) { m.Pc, m.Sp, m.Ram[51] = 150, 179, 2 }},
		{24, 1, 4, func(m *impl.Machine) { m.Pc, m.Sp = (52*37+11)%256, 181 }},
		{25, 1, 3, func(m *impl.Machine) { m.Sp, m.Ram[51] = 179, 11 }},
		{26, 1, 3, func(m *impl.Machine) { m.A, m.Sp = (52*37+11)%256, 181 }},
		{27, 1, 1, func(m *impl.Machine) { m.Enabled = true }},
		{28, 1, 1, func(m *impl.Machine) { m.Enabled = false }},
		{29, 1, 4, func(m *impl.Machine) { m.Pc, m.Sp = (52*37+11)%256, 181 }},
		{30, 1, 1, func(m *impl.Machine) { m.Halted = true }},
	} {
		wantChanged(t, coded(c.code, n), c.size, c.cost, -1, c.put)
	}
}

// TestEachCostIsItsLines: the cost is that of the table, wherever the code stands and whatever else holds.
func TestEachCostIsItsLines(t *testing.T) {
	for code, row := range opRows {
		for mix := range 8 {
			m := coded(int64(code), 40)
			m.Zero, m.Carry, m.Enabled = mix&1 != 0, mix&2 != 0, mix&4 != 0
			inRam := ramCoded(150, int64(code), 40)
			inRam.Zero, inRam.Carry, inRam.Enabled = m.Zero, m.Carry, m.Enabled
			for _, x := range []impl.Machine{m, inRam} {
				if _, cost, _ := impl.Executed(x); cost != row.cost || cost != impl.CostOf(int64(code)) {
					t.Fatalf("%s costs %d, want %d", row.name, cost, row.cost)
				}
			}
		}
	}
}

func TestSumsAndDifferencesSetWhatTheyTell(t *testing.T) {
	for _, c := range []struct {
		code, a, n, want int64
		zero, carry      bool
	}{
		{cAdd, 0, 0, 0, true, false}, {cAdd, 100, 155, 255, false, false}, {cAdd, 100, 156, 0, true, true}, {cAdd, 100, 157, 1, false, true}, {cAdd, 255, 255, 254, false, true}, {cAdd, 255, 0, 255, false, false},
		{cSub, 100, 100, 0, true, false}, {cSub, 100, 101, 255, false, true}, {cSub, 100, 99, 1, false, false}, {cSub, 0, 0, 0, true, false}, {cSub, 0, 1, 255, false, true}, {cSub, 0, 255, 1, false, true}, {cSub, 255, 255, 0, true, false},
		{cCmp, 100, 100, 100, true, false}, {cCmp, 100, 101, 100, false, true}, {cCmp, 100, 99, 100, false, false}, {cCmp, 0, 0, 0, true, false}, {cCmp, 0, 1, 0, false, true}, {cCmp, 0, 255, 0, false, true}, {cCmp, 255, 0, 255, false, false},
		{cAnd, 255, 255, 255, false, false}, {cAnd, 170, 85, 0, true, false}, {cAnd, 240, 60, 48, false, false}, {cAnd, 0, 255, 0, true, false},
		{cXor, 255, 255, 0, true, false}, {cXor, 170, 85, 255, false, false}, {cXor, 240, 60, 204, false, false}, {cXor, 0, 0, 0, true, false},
		{cRol, 0, 9, 0, true, false}, {cRol, 127, 9, 254, false, false}, {cRol, 128, 9, 1, false, true}, {cRol, 255, 9, 255, false, true}, {cRol, 64, 9, 128, false, false},
		{cRor, 0, 9, 0, true, false}, {cRor, 1, 9, 128, false, true}, {cRor, 2, 9, 1, false, false}, {cRor, 255, 9, 255, false, true}, {cRor, 254, 9, 127, false, false},
	} {
		for mix := range 4 {
			m := coded(c.code, c.n)
			m.A, m.Zero, m.Carry = c.a, mix&1 != 0, mix&2 != 0
			row := opRows[c.code]
			wantChanged(t, m, row.size, row.cost, -1, func(m *impl.Machine) { m.A, m.Zero, m.Carry = c.want, c.zero, c.carry })
		}
	}
}

func TestSumsWithB(t *testing.T) {
	for _, c := range []struct {
		a, b, want  int64
		zero, carry bool
	}{
		{0, 0, 0, true, false}, {100, 155, 255, false, false}, {100, 156, 0, true, true}, {255, 255, 254, false, true}, {200, 100, 44, false, true},
	} {
		// The byte behind the code is not what is added.
		m := coded(cAdb, 77)
		m.A, m.B, m.Zero, m.Carry = c.a, c.b, !c.zero, !c.carry
		wantChanged(t, m, 1, 1, -1, func(m *impl.Machine) { m.A, m.Zero, m.Carry = c.want, c.zero, c.carry })
	}
}

func TestCountingBTakesTheCarryAway(t *testing.T) {
	for _, c := range []struct {
		code, b, want int64
		zero          bool
	}{
		{cInb, 0, 1, false}, {cInb, 127, 128, false}, {cInb, 254, 255, false}, {cInb, 255, 0, true},
		{cDeb, 0, 255, false}, {cDeb, 1, 0, true}, {cDeb, 128, 127, false}, {cDeb, 255, 254, false},
	} {
		for mix := range 4 {
			m := coded(c.code)
			m.A, m.B, m.Zero, m.Carry = 0, c.b, mix&1 != 0, mix&2 != 0
			wantChanged(t, m, 1, 1, -1, func(m *impl.Machine) { m.B, m.Zero, m.Carry = c.want, c.zero, false })
		}
	}
}

// TestWhatSetsNeitherZeroNorCarry: moves, jumps and the stack leave both as they were, though a 0 is moved.
func TestWhatSetsNeitherZeroNorCarry(t *testing.T) {
	for code := range int64(lastCode + 1) {
		if code >= cAdd && code <= cDeb {
			continue
		}
		for mix := range 4 {
			for _, n := range []int64{0, 1, 130, 240, 255} {
				m := coded(code, n)
				m.A, m.B, m.Zero, m.Carry = n, n, mix&1 != 0, mix&2 != 0
				m.Ram = make([]int64, 64)
				got := wantByWords(t, m)
				if got.Zero != m.Zero || got.Carry != m.Carry {
					t.Fatalf("%s sets Zero or Carry", opRows[code].name)
				}
			}
		}
	}
}

func TestReckoningOfAllNumbers(t *testing.T) {
	for code := int64(cAdd); code <= cDeb; code++ {
		for a := range int64(256) {
			for n := range int64(256) {
				// Codes of size 1 take A or B alone, but for adb.
				if opRows[code].size == 1 && code != cAdb && n > 1 {
					break
				}
				m := coded(code, n)
				m.A, m.B = a, n
				if code == cInb || code == cDeb {
					m.A, m.B = n, a
				}
				m.Zero, m.Carry = (a+n)%2 == 0, (a+n)%4 < 2
				wantByWords(t, m)
			}
		}
	}
}

func TestEveryCodeWithManyNumbers(t *testing.T) {
	numbers := []int64{0, 1, 2, 127, 128, 129, 191, 192, 240, 241, 245, 249, 255}
	for code := range int64(256) {
		for i, n := range numbers {
			for k, a := range numbers {
				for j, b := range numbers {
					m := coded(code, n)
					if (i+k+j)%2 == 1 {
						m = ramCoded(140, code, n)
					}
					m.A, m.B, m.Sp = a, b, numbers[(i+2*k+3*j)%len(numbers)]
					m.Zero, m.Carry, m.Enabled = i%2 == 0, k%2 == 0, j%2 == 0
					wantByWords(t, m)
					if code > lastCode {
						break
					}
				}
			}
		}
	}
}

// TestEveryCodeAtEveryPlace: wherever a code can stand, and its n behind it.
func TestEveryCodeAtEveryPlace(t *testing.T) {
	codes := []int64{31, 32, 127, 128, 129, 254, 255}
	for code := range int64(lastCode + 1) {
		codes = append(codes, code)
	}
	done := map[int64]int{}
	for place := range int64(256) {
		for _, code := range codes {
			for _, n := range []int64{0, 5, 129, 200, 241, 249, 255} {
				m := laid(laid(filledMachine(128), place, code), (place+1)%256, n)
				if readByWords(m, place) != code {
					continue
				}
				m.Pc = place
				wantByWords(t, m)
				done[place]++
			}
		}
	}
	for place, least := range map[int64]int{0: 38, 127: 38, 128: 38, 191: 38, 192: 1, 240: 38, 241: 1, 242: 38, 243: 38, 244: 38, 245: 8, 246: 8, 247: 8, 248: 38, 249: 1, 254: 1, 255: 1} {
		if done[place] < least {
			t.Fatalf("place %d: only %d codes were tried", place, done[place])
		}
	}
}

// TestCodesAtTheNamedPlaces: the edges, their answers written out.
func TestCodesAtTheNamedPlaces(t *testing.T) {
	takes := func(m impl.Machine, pc, a int64) {
		t.Helper()
		wantExecuted(t, m, func() impl.Machine {
			want := machineClone(m)
			want.Pc, want.A = pc, a
			return want
		}(), 2, -1)
	}
	m := laid(filledMachine(128), 127, cLda)
	m.Pc = 127
	takes(m, 129, m.Ram[0])
	takes(ramCoded(128, cLda, 9), 130, 9)
	takes(ramCoded(190, cLda, 9), 192, 9)
	takes(ramCoded(191, cLda), 193, 255)
	m = filledMachine(4)
	m.Pc, m.Serial = 240, waiting(cLda, 3)
	takes(m, 242, 128)
	m.Serial = leading(cLda, 3, 510)
	takes(m, 242, 129)
	m = atClock(filledMachine(4), 16)
	m.Pc = 242
	takes(m, 244, 9)
	m = filledMachine(4)
	m.Pc, m.Timer.Value, m.Timer.Start = 243, cLda, 66
	takes(m, 245, 66)
	m.Pc, m.Timer.Start, m.Timer.Mode = 244, cLda, 6
	takes(m, 246, 6)
	m.Pc, m.Timer.Mode, m.Flags = 245, cLda, 5
	takes(m, 247, 5)
	m.Pc, m.Flags, m.Mask = 246, cLda, 4
	takes(m, 248, 4)
	m.Pc, m.Mask, m.Keys = 247, cLda, 77
	takes(m, 249, 77)
	m.Pc, m.Keys = 248, cLda
	takes(m, 250, 255)
	m = filledMachine(4)
	m.Pc, m.Serial = 241, idle(44)
	wantChanged(t, m, 1, 1, -1, unchanged)
}

// TestNumberBehindTheRomsEnd: the check is a code as any other, and behind it stands 255.
func TestNumberBehindTheRomsEnd(t *testing.T) {
	for _, c := range []struct {
		code, cost, out int64
		put             func(*impl.Machine)
	}{
		{cLda, 2, -1, func(m *impl.Machine) { m.A = 255 }},
		{cLdb, 2, -1, func(m *impl.Machine) { m.B = 255 }},
		{cGet, 3, -1, func(m *impl.Machine) { m.A = 255 }},
		{cPut, 3, -1, unchanged},
		{cAdd, 2, -1, func(m *impl.Machine) { m.A, m.Zero, m.Carry = 10, false, true }},
		{cAnd, 2, -1, func(m *impl.Machine) { m.Zero = false }},
		{cJmp, 3, -1, func(m *impl.Machine) { m.Pc = 255 }},
		{cCal, 4, -1, func(m *impl.Machine) { m.Pc, m.Sp, m.Ram[51] = 255, 179, 3 }},
	} {
		m := coded((c.code - 25 + 256) % 256)
		m.Pc = 1
		wantChanged(t, m, 2, c.cost, c.out, c.put)
	}
}

func TestNoSuchCodeIsStuck(t *testing.T) {
	wantStuck := func(m impl.Machine) {
		t.Helper()
		wantChanged(t, m, 0, 1, -1, func(m *impl.Machine) { m.Stuck = true })
	}
	for code := int64(lastCode + 1); code <= 255; code++ {
		wantStuck(coded(code, 5))
		wantStuck(ramCoded(128, code, 5))
		wantStuck(ramCoded(191, code))
	}
	m := filledMachine(4)
	for pc := int64(4); pc <= 127; pc++ {
		m.Pc = pc
		wantStuck(m)
	}
	for pc := int64(192); pc < 240; pc++ {
		m.Pc = pc
		wantStuck(m)
	}
	for pc := int64(249); pc <= 255; pc++ {
		m.Pc = pc
		wantStuck(m)
	}
	// 241 tells 129 and 128 here, where a byte is on its way.
	m.Pc = 241
	wantStuck(m)
	m.Serial = waiting(44, 8)
	wantStuck(m)
}

// TestPcAtTheLastPlaces: no code can stand at 249 or behind it, so who comes there is stuck.
func TestPcAtTheLastPlaces(t *testing.T) {
	for _, place := range []int64{254, 255} {
		m := wantChanged(t, coded(cJmp, place), 2, 3, -1, func(m *impl.Machine) { m.Pc = place })
		m = wantChanged(t, m, 0, 1, -1, func(m *impl.Machine) { m.Stuck = true })
		wantChanged(t, m, 0, 1, -1, unchanged)
	}
	m := filledMachine(4)
	m.Pc, m.Keys = 248, cMab
	m = wantChanged(t, m, 1, 1, -1, func(m *impl.Machine) { m.A = 22 })
	wantChanged(t, m, 0, 1, -1, func(m *impl.Machine) { m.Pc, m.Stuck = 249, true })
}

func TestPushesAtTheNamedPlaces(t *testing.T) {
	for _, c := range []struct {
		sp, place int64
	}{
		{0, 255}, {1, 0}, {127, 126}, {128, 127}, {129, 128}, {191, 190}, {192, 191}, {193, 192}, {249, 248}, {250, 249}, {251, 250}, {255, 254},
		{241, 240}, {243, 242}, {244, 243}, {245, 244}, {246, 245}, {247, 246}, {248, 247},
	} {
		for _, code := range []int64{cPsh, cCal} {
			for _, a := range []int64{0, 2, 100, 129, 255} {
				m := coded(code, 60)
				m.A, m.Sp = a, c.sp
				pushed, row, pc := a, opRows[code], int64(1)
				if code == cCal {
					pushed, pc = 2, 60
				}
				out := int64(-1)
				if c.place == 249 {
					out = pushed
				}
				want := writtenByWords(m, c.place, pushed)
				want.Sp, want.Pc = c.place, pc
				wantExecuted(t, m, want, row.cost, out)
			}
		}
	}
}

func TestPopsAtTheNamedPlaces(t *testing.T) {
	for _, c := range []struct {
		sp, want, behind int64
	}{
		{0, -1, 1}, {1, 9, 2}, {2, -2, 3}, {3, 255, 4}, {127, 255, 128}, {128, 11, 129}, {191, (63*37 + 11) % 256, 192}, {192, 255, 193},
		{240, 44, 241}, {241, 129, 242}, {242, 31, 243}, {243, 9, 244}, {244, 8, 245}, {245, 5, 246}, {246, 3, 247}, {247, 6, 248}, {248, 77, 249},
		{249, 255, 250}, {250, 255, 251}, {254, 255, 255}, {255, 255, 0},
	} {
		for _, code := range []int64{cPop, cRet, cRti} {
			m := coded(code, 9)
			m.Sp, m.Enabled = c.sp, false
			popped := c.want
			if popped < 0 {
				// In the rom stand the code itself and the check, which hang on it.
				popped = m.Rom[c.sp]
			}
			wantChanged(t, m, 1, opRows[code].cost, -1, func(m *impl.Machine) {
				m.Sp = c.behind
				switch code {
				case cPop:
					m.A = popped
				case cRet:
					m.Pc = popped
				case cRti:
					m.Pc, m.Enabled = popped, true
				}
			})
		}
	}
}

func TestWhatIsPushedIsPopped(t *testing.T) {
	for sp := int64(129); sp <= 192; sp++ {
		for n := range int64(256) {
			m := coded(cPsh, cLda, 255-n, cPop)
			m.A, m.Sp = n, sp
			for range 3 {
				m = wantByWords(t, m)
			}
			if m.A != n || m.Sp != sp || m.Pc != 4 {
				t.Fatalf("pushed %d at %d, popped %d at %d", n, sp, m.A, m.Sp)
			}
		}
		m := coded(cCal, 4, cHlt, cNop, cRet)
		m.Sp = sp
		m = wantByWords(t, wantByWords(t, m))
		if m.Pc != 2 || m.Sp != sp {
			t.Fatalf("called at %d, back at %d", sp, m.Pc)
		}
	}
}

func TestWhatGoesOut(t *testing.T) {
	for a := range int64(256) {
		m := coded(cPut, 249)
		m.A = a
		wantChanged(t, m, 2, 3, a, unchanged)
		m = coded(cPib, 7)
		m.A, m.B = a, 249
		wantChanged(t, m, 1, 2, a, unchanged)
		m = coded(cPsh)
		m.A, m.Sp = a, 250
		wantChanged(t, m, 1, 3, a, func(m *impl.Machine) { m.Sp = 249 })
		m = coded(cPop)
		m.A, m.Sp = a, 249
		wantChanged(t, m, 1, 3, -1, func(m *impl.Machine) { m.A, m.Sp = 255, 250 })
		// Whatever only reads there, or goes beside it, sends nothing out.
		m = coded(cGet, 249)
		m.A = a
		wantChanged(t, m, 2, 3, -1, func(m *impl.Machine) { m.A = 255 })
		for _, beside := range []int64{248, 250} {
			m = coded(cPut, beside)
			m.A = a
			wantChanged(t, m, 2, 3, -1, unchanged)
		}
	}
	m := ramCoded(150, cCal, 9)
	m.Sp = 250
	wantChanged(t, m, 2, 4, 152, func(m *impl.Machine) { m.Sp, m.Pc = 249, 9 })
	m = coded(cCal, 249)
	wantChanged(t, m, 2, 4, -1, func(m *impl.Machine) { m.Sp, m.Ram[51], m.Pc = 179, 2, 249 })
}

// orders: each way in which n can go to 241, from machines at this clock; a cal pushes the place behind itself.
func orders(n, clock int64) []impl.Machine {
	put := coded(cPut, 241)
	put.A = n
	pib := coded(cPib)
	pib.A, pib.B = n, 241
	psh := coded(cPsh)
	psh.A, psh.Sp = n, 242
	cal := laid(laid(filledMachine(128), n-2, cCal), n-1, 70)
	cal.Pc, cal.Sp = n-2, 242
	list := []impl.Machine{put, pib, psh, cal}
	for i := range list {
		list[i] = atClock(list[i], clock)
	}
	return list
}

func TestOrdersToTheCableByOperations(t *testing.T) {
	late := int64(impl.MaxClock - 31)
	for _, c := range []struct {
		n, clock int64
		want     impl.Serial
	}{
		{127, 500, idle(44)}, {128, 500, waiting(44, 8)}, {129, 500, leading(44, 8, 532)},
		{127, 0, idle(44)}, {128, 0, waiting(44, 8)}, {129, 0, leading(44, 8, 32)},
		{129, late - 1, leading(44, 8, impl.MaxClock)}, {129, late, impl.Serial{}}, {128, late, waiting(44, 8)}, {127, late, idle(44)},
	} {
		for i, m := range orders(c.n, c.clock) {
			got := wantByWords(t, m)
			_, _, out := impl.Executed(m)
			if got.Serial != c.want || out != -1 {
				t.Fatalf("%d to 241 at %d, way %d: got %+v %d", c.n, c.clock, i, got.Serial, out)
			}
			if i == 3 && (got.Pc != 70 || got.Sp != 241) {
				t.Fatalf("cal: Pc %d, Sp %d", got.Pc, got.Sp)
			}
		}
	}
}

// TestNumberIsReadFirst: a push over the call's own number does not change where it leads, nor a put over the code what is done.
func TestNumberIsReadFirst(t *testing.T) {
	m := ramCoded(140, cCal, 9)
	m.Sp = 142
	wantChanged(t, m, 2, 4, -1, func(m *impl.Machine) { m.Sp, m.Ram[13], m.Pc = 141, 142, 9 })
	m = ramCoded(140, cCal, 9)
	m.Sp = 141
	wantChanged(t, m, 2, 4, -1, func(m *impl.Machine) { m.Sp, m.Ram[12], m.Pc = 140, 142, 9 })
	for _, place := range []int64{140, 141} {
		m = ramCoded(140, cPut, place)
		wantChanged(t, m, 2, 3, -1, func(m *impl.Machine) { m.Ram[place-128] = 11 })
	}
}

func TestGetsAndPutsEveryPlace(t *testing.T) {
	for place := range int64(256) {
		for _, n := range []int64{0, 9, 127, 128, 129, 255} {
			get, put := coded(cGet, place), coded(cPut, place)
			put.A = n
			wantByWords(t, get)
			wantByWords(t, put)
			gib, pib := coded(cGib, 3), coded(cPib, 3)
			gib.B, pib.A, pib.B = place, n, place
			wantByWords(t, gib)
			wantByWords(t, pib)
		}
	}
}

func TestJumpsTakenAndNot(t *testing.T) {
	for _, c := range []struct {
		code        int64
		zero, carry bool
		taken       bool
	}{
		{cJmp, false, false, true}, {cJmp, false, true, true}, {cJmp, true, false, true}, {cJmp, true, true, true},
		{cJpz, false, false, false}, {cJpz, false, true, false}, {cJpz, true, false, true}, {cJpz, true, true, true},
		{cJnz, false, false, true}, {cJnz, false, true, true}, {cJnz, true, false, false}, {cJnz, true, true, false},
		{cJpc, false, false, false}, {cJpc, false, true, true}, {cJpc, true, false, false}, {cJpc, true, true, true},
	} {
		for _, n := range namedPlaces {
			m := coded(c.code, n)
			m.Zero, m.Carry = c.zero, c.carry
			wantChanged(t, m, 2, 3, -1, func(m *impl.Machine) {
				if c.taken {
					m.Pc = n
				}
			})
		}
	}
}

func TestEnabledIsSetByItsCodesAlone(t *testing.T) {
	for code := range int64(lastCode + 1) {
		for _, before := range []bool{false, true} {
			m := coded(code, 40)
			m.Enabled = before
			want := before
			switch code {
			case cEni, cRti:
				want = true
			case cDis:
				want = false
			}
			got, _, _ := impl.Executed(m)
			if got.Enabled != want || got.Halted != (code == cHlt) || got.Stuck {
				t.Fatalf("%s: Enabled %v, Halted %v, Stuck %v", opRows[code].name, got.Enabled, got.Halted, got.Stuck)
			}
		}
	}
}

func TestHaltedAndStuckStayAsTheyAre(t *testing.T) {
	for _, m := range sampleMachines(t) {
		for _, pc := range namedPlaces {
			m.Pc = pc
			for mix := 1; mix <= 3; mix++ {
				m.Halted, m.Stuck = mix&1 != 0, mix&2 != 0
				wantExecuted(t, m, m, 1, -1)
			}
		}
	}
	for code := range int64(256) {
		for mix := 1; mix <= 3; mix++ {
			m := coded(code, 249)
			m.Halted, m.Stuck = mix&1 != 0, mix&2 != 0
			for range 3 {
				m = wantExecuted(t, m, m, 1, -1)
			}
		}
	}
}

func TestStuckStaysSo(t *testing.T) {
	for code := int64(lastCode + 1); code <= 255; code++ {
		m := coded(code, cHlt, cNop)
		m, _, _ = impl.Executed(m)
		for range 5 {
			if !m.Stuck || m.Halted || m.Pc != 0 {
				t.Fatalf("code %d: %+v", code, m)
			}
			m = wantExecuted(t, m, m, 1, -1)
		}
	}
}

func TestWrongMachinesAreNotExecuted(t *testing.T) {
	for _, m := range wrongMachines() {
		wantExecuted(t, m, impl.Machine{}, 0, -1)
		// That it is not right goes ahead of whether it is Halted or Stuck.
		for mix := 1; mix <= 3; mix++ {
			m.Halted, m.Stuck = mix&1 != 0, mix&2 != 0
			wantExecuted(t, m, impl.Machine{}, 0, -1)
		}
	}
}

// TestLongRunsByWords: one operation upon the other, as the words tell each of them, with codes that change themselves.
func TestLongRunsByWords(t *testing.T) {
	next := uint32(2463534242)
	random := func(below uint32) int64 {
		next = next*1664525 + 1013904223
		return int64(next >> 8 % below)
	}
	samples := sampleMachines(t)
	for run := range 300 {
		m := machineClone(samples[run%len(samples)])
		m.Halted, m.Stuck, m.Pc = false, false, 0
		code := make([]int64, 127)
		for i := range code {
			code[i] = random(33)
			if i%3 == 1 {
				code[i] = random(256)
			}
		}
		m.Rom = append(code, plainCheck(code))
		for i := range m.Ram {
			m.Ram[i] = random(31)
		}
		for range 300 {
			m = wantByWords(t, m)
			// Who would stay so is set going elsewhere.
			if m.Halted || m.Stuck {
				m.Halted, m.Stuck, m.Pc = false, false, random(192)
			}
		}
	}
}

func executed(m impl.Machine) impl.Machine {
	m, _, _ = impl.Executed(m)
	return m
}

func TestExecutedMachinesShareNothing(t *testing.T) {
	for code := range int64(256) {
		for _, n := range []int64{0, 127, 130, 240, 241, 249, 255} {
			for mix := range 4 {
				list := []impl.Machine{coded(code, n), ramCoded(128, code, n), ramCoded(190, code, n)}
				for _, m := range list {
					m.Halted, m.Stuck, m.Zero, m.Carry = mix&1 != 0, mix&2 != 0, n%2 == 0, n > 127
					m.A, m.B, m.Sp = 129, n, n
					wantSharesNothing(t, m, executed)
				}
			}
		}
	}
}

func TestExecutedOfOneMemory(t *testing.T) {
	for code := range int64(256) {
		for mix := range 4 {
			m := filledMachine(64)
			m.Rom[0], m.Rom[1] = code, 150
			m.Rom[63] = plainCheck(m.Rom[:63])
			m.Ram, m.Pc = m.Rom, 0
			m.Halted, m.Stuck = mix&1 != 0, mix&2 != 0
			before := slices.Clone(m.Rom)
			wantOwnMemory(t, wantByWords(t, m))
			if !slices.Equal(m.Rom, before) {
				t.Fatalf("code %d: the answer shares memory", code)
			}
		}
	}
}
