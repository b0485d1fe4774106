package tests

import (
	"slices"
	"testing"

	"loop.example/g00741/impl"
)

// leastOf: the least i whose bit is in n, for each n from 0 to 7.
var leastOf = []int64{-1, 0, 1, 0, 2, 0, 1, 0}

func pendingByWords(m impl.Machine) int64 { return leastOf[bothBits(m.Flags, m.Mask)] }

// interruptedByWords: worked out by the document's words alone.
func interruptedByWords(m impl.Machine) (impl.Machine, int64) {
	w := &byWords{machineClone(m), -1}
	i := pendingByWords(m)
	if i == -1 || m.Stuck {
		return w.m, -1
	}
	w.m.Halted = false
	if !m.Enabled {
		return w.m, -1
	}
	w.m.Enabled = false
	w.m.Flags -= []int64{1, 2, 4}[i]
	w.pushed(m.Pc)
	w.m.Pc = []int64{16, 24, 32}[i]
	return w.m, i
}

func wantPending(t *testing.T, m impl.Machine, want int64) {
	t.Helper()
	before := machineClone(m)
	if got := impl.PendingIn(m); got != want {
		t.Fatalf("PendingIn of %+v: got %d, want %d", m, got, want)
	}
	if !likeMachines(m, before) {
		t.Fatalf("PendingIn of %+v: its argument is changed to %+v", before, m)
	}
}

func wantInterrupted(t *testing.T, m, want impl.Machine, wantI int64) impl.Machine {
	t.Helper()
	before := machineClone(m)
	got, i := impl.Interrupted(m)
	if !likeMachines(got, want) || i != wantI {
		t.Fatalf("Interrupted of %+v: got %+v %d, want %+v %d", m, got, i, want, wantI)
	}
	if !likeMachines(m, before) {
		t.Fatalf("Interrupted of %+v: its argument is changed to %+v", before, m)
	}
	return got
}

// wantCalledByWords: it is called away, or not, as the document's words tell; it stays right, and no time goes by.
func wantCalledByWords(t *testing.T, m impl.Machine) impl.Machine {
	t.Helper()
	want, i := interruptedByWords(m)
	wantPending(t, m, pendingByWords(m))
	got := wantInterrupted(t, m, want, i)
	if !impl.MachineOk(got) || got.Clock != m.Clock || got.Timer.Count != m.Timer.Count {
		t.Fatalf("Interrupted of %+v is not right, or time went by: %+v", m, got)
	}
	return got
}

// wantCalled: nothing is changed but what is put.
func wantCalled(t *testing.T, m impl.Machine, i int64, put func(*impl.Machine)) impl.Machine {
	t.Helper()
	want := machineClone(m)
	put(&want)
	return wantInterrupted(t, m, want, i)
}

// asked: a right machine (Pc 33, Sp 180) to whom these came, and who wants those.
func asked(flags, mask int64, enabled bool) impl.Machine {
	m := filledMachine(4)
	m.Flags, m.Mask, m.Enabled = flags, mask, enabled
	return m
}

// mixed: the machine in each of the eight ways to be Enabled, Halted and Stuck, or not.
func mixed(m impl.Machine) []impl.Machine {
	var list []impl.Machine
	for mix := range 8 {
		x := machineClone(m)
		x.Enabled, x.Halted, x.Stuck = mix&1 != 0, mix&2 != 0, mix&4 != 0
		list = append(list, x)
	}
	return list
}

func TestWhichOneIsPending(t *testing.T) {
	for _, c := range [][3]int64{
		{0, 0, -1}, {0, 7, -1}, {7, 0, -1},
		{1, 1, 0}, {2, 2, 1}, {4, 4, 2},
		{3, 3, 0}, {5, 5, 0}, {6, 6, 1}, {7, 7, 0},
		{1, 6, -1}, {2, 5, -1}, {4, 3, -1}, {6, 1, -1}, {5, 2, -1}, {3, 4, -1},
		{7, 1, 0}, {7, 2, 1}, {7, 4, 2}, {1, 7, 0}, {2, 7, 1}, {4, 7, 2},
		{7, 6, 1}, {6, 7, 1}, {3, 6, 1}, {6, 3, 1}, {5, 6, 2}, {6, 5, 2}, {5, 3, 0}, {3, 5, 0},
	} {
		for _, m := range mixed(asked(c[0], c[1], true)) {
			wantPending(t, m, c[2])
		}
	}
}

// TestAllPairsOfFlagsAndMask: each of them, in every way to be Enabled, Halted and Stuck, its answer written out.
func TestAllPairsOfFlagsAndMask(t *testing.T) {
	for flags := range int64(8) {
		for mask := range int64(8) {
			i := leastOf[flags&mask]
			for _, m := range mixed(asked(flags, mask, true)) {
				wantPending(t, m, i)
				switch {
				case i == -1 || m.Stuck:
					wantCalled(t, m, -1, unchanged)
				case !m.Enabled:
					wantCalled(t, m, -1, func(m *impl.Machine) { m.Halted = false })
				default:
					wantCalled(t, m, i, func(m *impl.Machine) {
						m.Halted, m.Enabled = false, false
						m.Flags = flags - 1<<i
						m.Sp, m.Ram[51] = 179, 33
						m.Pc = 16 + 8*i
					})
				}
			}
		}
	}
}

func TestCalledAwayByHand(t *testing.T) {
	for _, c := range []struct {
		flags, mask, i, left, pc int64
	}{
		{1, 1, 0, 0, 16}, {2, 2, 1, 0, 24}, {4, 4, 2, 0, 32},
		{7, 7, 0, 6, 16}, {6, 7, 1, 4, 24}, {7, 6, 1, 5, 24}, {7, 4, 2, 3, 32}, {5, 6, 2, 1, 32}, {3, 5, 0, 2, 16},
	} {
		for _, halted := range []bool{false, true} {
			m := asked(c.flags, c.mask, true)
			m.Halted = halted
			wantCalled(t, m, c.i, func(m *impl.Machine) {
				m.Halted, m.Enabled, m.Flags = false, false, c.left
				m.Sp, m.Ram[51], m.Pc = 179, 33, c.pc
			})
		}
	}
}

// TestNobodyIsCalledWhoDoesNotWantIt: neither by what is not in his Mask, nor while he is not Enabled, nor Stuck.
func TestNobodyIsCalledWhoDoesNotWantIt(t *testing.T) {
	for _, sample := range sampleMachines(t) {
		for flags := range int64(8) {
			for mask := range int64(8) {
				sample.Flags, sample.Mask = flags, mask
				for _, m := range mixed(sample) {
					got, i := impl.Interrupted(m)
					if i != -1 && (!m.Enabled || m.Stuck || mask&(1<<i) == 0 || flags&(1<<i) == 0) {
						t.Fatalf("%+v is called away by %d", m, i)
					}
					if i == -1 && (got.Pc != m.Pc || got.Sp != m.Sp || got.Flags != m.Flags || got.Enabled != m.Enabled || !slices.Equal(got.Ram, m.Ram)) {
						t.Fatalf("%+v is called away to %+v, but none is told", m, got)
					}
					wantCalledByWords(t, m)
				}
			}
		}
	}
}

func TestWhoIsNotEnabledOnlyWakes(t *testing.T) {
	m := asked(6, 2, false)
	m.Halted = true
	awake := wantCalled(t, m, -1, func(m *impl.Machine) { m.Halted = false })
	wantCalled(t, awake, -1, unchanged)
	// What he was not called away for is still there when he is Enabled.
	awake.Enabled = true
	wantCalled(t, awake, 1, func(m *impl.Machine) {
		m.Enabled, m.Flags, m.Sp, m.Ram[51], m.Pc = false, 4, 179, 33, 24
	})
}

func TestStuckOrNoneStaysAsItIs(t *testing.T) {
	for mix := range 4 {
		m := asked(7, 7, mix&1 != 0)
		m.Stuck, m.Halted = true, mix&2 != 0
		wantCalled(t, m, -1, unchanged)
		m = asked(2, 5, mix&1 != 0)
		m.Halted = mix&2 != 0
		wantCalled(t, m, -1, unchanged)
	}
}

// TestPushesOfWhoIsCalledAway: where Sp is, and where Pc goes then, its answers written out.
func TestPushesOfWhoIsCalledAway(t *testing.T) {
	for _, c := range []struct {
		sp, place, pc int64
		put           func(*impl.Machine)
	}{
		{0, 255, 77, unchanged},
		{1, 0, 77, unchanged},
		{128, 127, 77, unchanged},
		{129, 128, 77, func(m *impl.Machine) { m.Ram[0] = 77 }},
		{130, 129, 77, func(m *impl.Machine) { m.Ram[1] = 77 }},
		{191, 190, 77, func(m *impl.Machine) { m.Ram[62] = 77 }},
		{192, 191, 77, func(m *impl.Machine) { m.Ram[63] = 77 }},
		{193, 192, 77, unchanged},
		{241, 240, 77, func(m *impl.Machine) { m.Serial.Data = 77 }},
		{242, 241, 127, func(m *impl.Machine) { m.Serial = idle(44) }},
		{242, 241, 128, func(m *impl.Machine) { m.Serial = waiting(44, 8) }},
		{242, 241, 129, func(m *impl.Machine) { m.Serial = leading(44, 8, 532) }},
		{243, 242, 77, unchanged},
		{244, 243, 77, func(m *impl.Machine) { m.Timer.Value = 77 }},
		{245, 244, 77, func(m *impl.Machine) { m.Timer.Start = 77 }},
		{246, 245, 78, func(m *impl.Machine) { m.Timer.Mode = 6 }},
		{249, 248, 78, unchanged},
		{250, 249, 78, unchanged},
		{251, 250, 78, unchanged},
		{255, 254, 78, unchanged},
	} {
		m := asked(7, 6, true)
		m.Sp, m.Pc = c.sp, c.pc
		wantCalled(t, m, 1, func(m *impl.Machine) {
			m.Enabled, m.Flags, m.Sp, m.Pc = false, 5, c.place, 24
			c.put(m)
		})
	}
}

// TestPushedOverFlagsOrMask: the bit is out of Flags ahead of the push, so that what is pushed there stands as it is.
func TestPushedOverFlagsOrMask(t *testing.T) {
	for pc := range int64(256) {
		for flags := range int64(8) {
			for mask := range int64(8) {
				i := leastOf[flags&mask]
				if i == -1 {
					continue
				}
				m := asked(flags, mask, true)
				m.Pc, m.Sp = pc, 247
				wantCalled(t, m, i, func(m *impl.Machine) {
					m.Enabled, m.Flags, m.Sp, m.Pc = false, pc%8, 246, 16+8*i
				})
				m.Sp = 248
				wantCalled(t, m, i, func(m *impl.Machine) {
					m.Enabled, m.Flags, m.Mask, m.Sp, m.Pc = false, flags-1<<i, pc%8, 247, 16+8*i
				})
			}
		}
	}
}

func TestPushedOverTheCableAtTheLastClock(t *testing.T) {
	late := int64(impl.MaxClock - 31)
	for _, c := range []struct {
		pc, clock int64
		want      impl.Serial
	}{
		{129, 0, leading(44, 8, 32)}, {255, late - 1, leading(44, 8, impl.MaxClock)},
		{129, late, impl.Serial{}}, {255, impl.MaxClock, impl.Serial{}},
		{128, late, waiting(44, 8)}, {127, late, idle(44)}, {0, impl.MaxClock, idle(44)},
	} {
		m := atClock(asked(4, 4, true), c.clock)
		m.Pc, m.Sp = c.pc, 242
		wantCalled(t, m, 2, func(m *impl.Machine) {
			m.Enabled, m.Flags, m.Sp, m.Pc, m.Serial = false, 0, 241, 32, c.want
		})
	}
}

func TestCalledAwayAtEverySp(t *testing.T) {
	for sp := range int64(256) {
		for _, pc := range []int64{0, 1, 7, 8, 16, 24, 32, 126, 127, 128, 129, 130, 254, 255} {
			for flags := int64(1); flags < 8; flags++ {
				m := asked(flags, 7, true)
				m.Sp, m.Pc = sp, pc
				wantCalledByWords(t, m)
				m.Halted, m.Enabled = true, false
				wantCalledByWords(t, m)
			}
		}
	}
}

// backing: a machine at whose three entries stands rti.
func backing(flags int64) impl.Machine {
	m := filledMachine(128)
	m.Flags, m.Mask = flags, 7
	for _, entry := range []int64{16, 24, 32} {
		m = laid(m, entry, cRti)
	}
	return m
}

func TestWhoIsCalledAwayComesBack(t *testing.T) {
	for _, flags := range []int64{1, 2, 4, 7} {
		for pc := range int64(256) {
			for _, sp := range []int64{129, 130, 160, 191, 192} {
				for _, halted := range []bool{false, true} {
					m := backing(flags)
					m.Pc, m.Sp, m.Halted = pc, sp, halted
					away := wantCalledByWords(t, m)
					wantChanged(t, away, 1, 4, -1, func(x *impl.Machine) {
						x.Pc, x.Sp, x.Enabled = pc, sp, true
					})
				}
			}
		}
	}
}

// TestOneAfterTheOther: each of three is taken by its turn, and none while another one is about.
func TestOneAfterTheOther(t *testing.T) {
	m := backing(7)
	for i := range int64(3) {
		away, which := impl.Interrupted(m)
		if which != i || away.Pc != 16+8*i {
			t.Fatalf("called away by %d to %d, want %d", which, away.Pc, i)
		}
		wantInterrupted(t, away, away, -1)
		m = executed(away)
		if m.Pc != 33 || m.Sp != 180 || !m.Enabled {
			t.Fatalf("back from %d: %+v", i, m)
		}
	}
	if m.Flags != 0 {
		t.Fatalf("Flags %d are left", m.Flags)
	}
	wantPending(t, m, -1)
	wantInterrupted(t, m, m, -1)
}

func TestInterruptedSamplesStayRight(t *testing.T) {
	for _, m := range sampleMachines(t) {
		for _, sp := range namedPlaces {
			for _, pc := range []int64{0, 127, 128, 129, 255} {
				m.Sp, m.Pc = sp, pc
				for _, x := range mixed(m) {
					wantCalledByWords(t, x)
				}
			}
		}
	}
}

func TestWrongMachinesAreNotCalledAway(t *testing.T) {
	for _, m := range wrongMachines() {
		for _, x := range mixed(m) {
			wantPending(t, x, -1)
			wantInterrupted(t, x, impl.Machine{}, -1)
		}
	}
	// Bits that both have, but in numbers that are too great or too small.
	for _, wrong := range append([]int64{-1, 8, 9, 15, 255, -8}, farNumbers...) {
		for _, c := range [][2]int64{{wrong, 7}, {7, wrong}, {wrong, wrong}} {
			m := asked(c[0], c[1], true)
			wantPending(t, m, -1)
			wantInterrupted(t, m, impl.Machine{}, -1)
		}
	}
}

func interrupted(m impl.Machine) impl.Machine {
	m, _ = impl.Interrupted(m)
	return m
}

func TestInterruptedMachinesShareNothing(t *testing.T) {
	for _, size := range []int{2, 64, 128} {
		for _, sp := range namedPlaces {
			for _, flags := range []int64{0, 1, 3, 6} {
				m := filledMachine(size)
				m.Flags, m.Sp, m.Pc = flags, sp, 129
				for _, x := range mixed(m) {
					wantSharesNothing(t, x, interrupted)
				}
			}
		}
	}
}

func TestInterruptedOfOneMemory(t *testing.T) {
	for sp := range int64(256) {
		for flags := range int64(8) {
			m := filledMachine(64)
			m.Ram, m.Sp, m.Flags = m.Rom, sp, flags
			before := slices.Clone(m.Rom)
			for _, enabled := range []bool{false, true} {
				m.Enabled = enabled
				wantOwnMemory(t, wantCalledByWords(t, m))
				if !slices.Equal(m.Rom, before) {
					t.Fatalf("Sp %d: the answer shares memory", sp)
				}
			}
		}
	}
}

func TestAskingWhatIsPendingChangesNothing(t *testing.T) {
	wrong := filledMachine(4)
	wrong.Ram[5] = 256
	for _, m := range append(sampleMachines(t), wrong) {
		rom, wholeRom := withRoom(m.Rom)
		ram, wholeRam := withRoom(m.Ram)
		beforeRom, beforeRam := slices.Clone(wholeRom), slices.Clone(wholeRam)
		m.Rom, m.Ram = rom, ram
		wantPending(t, m, impl.PendingIn(m))
		if !slices.Equal(wholeRom, beforeRom) || !slices.Equal(wholeRam, beforeRam) {
			t.Fatalf("%+v is changed", m)
		}
	}
}
