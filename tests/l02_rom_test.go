package tests

import (
	"math"
	"slices"
	"testing"

	"loop.example/g00741/impl"
)

// sampleCode: size byte numbers that reach both ends and hang on their place.
func sampleCode(size int) []int64 {
	code := make([]int64, size)
	for i := range code {
		code[i] = int64(i*i*7+i*91+255) % 256
	}
	return code
}

// plainCheck: the check worked out by the document's words alone.
func plainCheck(code []int64) int64 {
	sum := int64(25)
	for _, n := range code {
		sum += n
	}
	return sum % 256
}

// wrongCodes: codes of size numbers with one that is no byte number, at each place.
func wrongCodes(size int) [][]int64 {
	var codes [][]int64
	for place := range size {
		for _, n := range wrongBytes {
			code := sampleCode(size)
			code[place] = n
			codes = append(codes, code)
		}
	}
	return codes
}

func wantNoRom(t *testing.T, code []int64) {
	t.Helper()
	if rom, is := impl.RomOf(code); is || len(rom) != 0 {
		t.Fatalf("RomOf of %v: got %v %v, want nothing and false", code, rom, is)
	}
}

func TestCheckAtTheEdges(t *testing.T) {
	for _, c := range []struct {
		code []int64
		want int64
	}{
		{nil, 25}, {[]int64{}, 25}, {[]int64{0}, 25}, {[]int64{1}, 26}, {[]int64{0, 0, 0}, 25},
		{[]int64{229}, 254}, {[]int64{230}, 255}, {[]int64{231}, 0}, {[]int64{232}, 1}, {[]int64{255}, 24},
		{[]int64{200, 30}, 255}, {[]int64{200, 31}, 0}, {[]int64{255, 255, 255}, 22},
		{[]int64{200, 100}, 69}, {[]int64{255, 255, 232}, 255}, {[]int64{255, 255, 233}, 0},
	} {
		if got := impl.CheckOf(c.code); got != c.want {
			t.Fatalf("CheckOf of %v: got %d, want %d", c.code, got, c.want)
		}
	}
}

func TestCheckOfAnySize(t *testing.T) {
	for _, size := range []int{2, 3, 125, 126, 127, 128, 129, 256, 1000, 100000} {
		code := sampleCode(size)
		if got, want := impl.CheckOf(code), plainCheck(code); got != want {
			t.Fatalf("CheckOf of %d numbers: got %d, want %d", size, got, want)
		}
	}
}

func TestCheckOfWhatIsNoByte(t *testing.T) {
	for _, code := range wrongCodes(4) {
		if got := impl.CheckOf(code); got != -1 {
			t.Fatalf("CheckOf of %v: got %d, want -1", code, got)
		}
	}
	for _, code := range [][]int64{
		{-1}, {256}, {-1, 1}, {-25}, {256, -256}, {300, -44}, {-1, -1},
		{math.MaxInt64, math.MaxInt64}, {math.MinInt64, math.MinInt64}, {math.MaxInt64, math.MinInt64},
	} {
		if got := impl.CheckOf(code); got != -1 {
			t.Fatalf("CheckOf of %v: got %d, want -1", code, got)
		}
	}
	long := sampleCode(1000)
	long[999] = 256
	if got := impl.CheckOf(long); got != -1 {
		t.Fatalf("CheckOf of a long code with a wrong end: got %d, want -1", got)
	}
}

func TestRomOkSizes(t *testing.T) {
	for _, c := range []struct {
		size int
		want bool
	}{
		{1, false}, {2, true}, {3, true}, {127, true}, {128, true}, {129, false}, {256, false}, {1000, false},
	} {
		code := sampleCode(c.size - 1)
		rom := append(code, plainCheck(code))
		if impl.RomOk(rom) != c.want {
			t.Fatalf("RomOk of %d numbers: want %v", c.size, c.want)
		}
	}
	if impl.RomOk(nil) || impl.RomOk([]int64{}) {
		t.Fatal("RomOk of nothing: want false")
	}
	for n := int64(0); n < 256; n++ {
		if impl.RomOk([]int64{n}) {
			t.Fatalf("RomOk of %d alone: want false", n)
		}
	}
}

func TestRomOkAsksForTheCheck(t *testing.T) {
	for n := int64(0); n < 256; n++ {
		for last := int64(0); last < 256; last++ {
			if want := last == (n+25)%256; impl.RomOk([]int64{n, last}) != want {
				t.Fatalf("RomOk of %d, %d: want %v", n, last, want)
			}
		}
	}
	for _, rom := range [][]int64{{230, 255}, {231, 0}, {200, 100, 69}, {200, 30, 255}, {200, 31, 0}} {
		if !impl.RomOk(rom) {
			t.Fatalf("RomOk of %v: want true", rom)
		}
	}
	for _, rom := range [][]int64{
		{0, 0}, {0, 24}, {0, 26}, {25, 0}, {230, -1}, {231, 256}, {231, -256}, {0, 25 + 256}, {0, 25 - 256},
		{0, 25 + 1<<32}, {69, 200, 100}, {200, 100, 68}, {200, 100, 69, 0}, {200, 100, 325},
	} {
		if impl.RomOk(rom) {
			t.Fatalf("RomOk of %v: want false", rom)
		}
	}
}

func TestRomOkOfWhatIsNoByte(t *testing.T) {
	for _, code := range wrongCodes(3) {
		// What a wrong code would be closed by, were it closed at all.
		for _, last := range []int64{-1, 0, 25, 255, 256, (plainCheck(code) + 256) % 256} {
			if rom := append(slices.Clone(code), last); impl.RomOk(rom) {
				t.Fatalf("RomOk of %v: want false", rom)
			}
		}
	}
	for _, last := range wrongBytes {
		if rom := []int64{7, 9, last}; impl.RomOk(rom) {
			t.Fatalf("RomOk of %v: want false", rom)
		}
	}
}

func TestRomOfIsARom(t *testing.T) {
	for size := 1; size <= 127; size++ {
		code := sampleCode(size)
		rom, is := impl.RomOf(code)
		if want := append(slices.Clone(code), plainCheck(code)); !is || !slices.Equal(rom, want) {
			t.Fatalf("RomOf of %d numbers: got %v %v, want %v true", size, rom, is, want)
		}
		if !impl.RomOk(rom) || impl.CheckOf(code) != rom[size] {
			t.Fatalf("RomOf of %d numbers: %v is no rom", size, rom)
		}
	}
	for n := int64(0); n < 256; n++ {
		rom, is := impl.RomOf([]int64{n})
		if want := []int64{n, (n + 25) % 256}; !is || !slices.Equal(rom, want) || !impl.RomOk(rom) {
			t.Fatalf("RomOf of %d: got %v %v, want %v true", n, rom, is, want)
		}
	}
}

func TestRomOfSizes(t *testing.T) {
	for _, c := range []struct {
		size int
		want bool
	}{
		{0, false}, {1, true}, {126, true}, {127, true}, {128, false}, {129, false}, {255, false}, {1000, false},
	} {
		for _, code := range [][]int64{make([]int64, c.size), sampleCode(c.size)} {
			rom, is := impl.RomOf(code)
			if is != c.want || is && len(rom) != c.size+1 || !is && len(rom) != 0 {
				t.Fatalf("RomOf of %d numbers: got %v %v, want %v", c.size, rom, is, c.want)
			}
		}
	}
	wantNoRom(t, nil)
}

func TestRomOfWhatIsNoByte(t *testing.T) {
	for _, size := range []int{1, 2, 5} {
		for _, code := range wrongCodes(size) {
			wantNoRom(t, code)
		}
	}
	for _, place := range []int{0, 63, 126} {
		code := sampleCode(127)
		code[place] = 256
		wantNoRom(t, code)
	}
	wantNoRom(t, []int64{math.MaxInt64, math.MinInt64})
}

// withRoom: the code with spare room behind it, and the whole of that memory.
func withRoom(code []int64) ([]int64, []int64) {
	whole := make([]int64, len(code)+8)
	copy(whole, code)
	for i := len(code); i < len(whole); i++ {
		whole[i] = -77
	}
	return whole[:len(code)], whole
}

func TestRomsShareNothing(t *testing.T) {
	wrong := sampleCode(3)
	wrong[1] = 256
	for _, given := range [][]int64{{}, {5}, {200, 100}, sampleCode(126), sampleCode(127), sampleCode(128), wrong} {
		code, whole := withRoom(given)
		before := slices.Clone(whole)
		impl.CheckOf(code)
		impl.RomOk(code)
		rom, is := impl.RomOf(code)
		if !slices.Equal(whole, before) {
			t.Fatalf("RomOf of %v wrote into what was given: %v", given, whole)
		}
		kept := slices.Clone(rom)
		again, _ := impl.RomOf(code)
		for i := range whole {
			whole[i] = -9
		}
		if !slices.Equal(rom, kept) {
			t.Fatalf("RomOf of %v shares memory with what was given", given)
		}
		if !is {
			continue
		}
		rom = append(rom[:0], make([]int64, cap(rom))...)
		if !slices.Equal(again, kept) {
			t.Fatalf("RomOf of %v answers the same memory twice: %v", given, rom)
		}
	}
}

func TestRomOkKeepsItsRom(t *testing.T) {
	for _, given := range [][]int64{{200, 100, 69}, {200, 100, 70}, {25}, {-1, -1}} {
		rom, whole := withRoom(given)
		before := slices.Clone(whole)
		first, second := impl.RomOk(rom), impl.RomOk(rom)
		if first != second || !slices.Equal(whole, before) {
			t.Fatalf("RomOk of %v: %v, then %v; memory %v", given, first, second, whole)
		}
	}
}
