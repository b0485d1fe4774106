package tests

import (
	"math"
	"testing"

	"loop.example/g00741/impl"
)

// wrongBytes: just beside the byte numbers and far from them; all of them would pass for one if only their last eight bits were kept.
var wrongBytes = []int64{
	-1, -128, -255, -256, 256, 257, 300, 511, 512,
	1 << 32, 1<<32 + 1, -1 << 32,
	math.MaxInt32, math.MinInt32, math.MaxInt64, math.MaxInt64 - 1, math.MinInt64, math.MinInt64 + 1,
}

// edgeBytes: the byte numbers that a wrong one is laid beside.
var edgeBytes = []int64{0, 1, 127, 128, 254, 255}

func wantByte(t *testing.T, call string, a, b, got int64, gotFlag bool, want int64, wantFlag bool) {
	t.Helper()
	if got != want || gotFlag != wantFlag {
		t.Fatalf("%s of %d, %d: got %d %v, want %d %v", call, a, b, got, gotFlag, want, wantFlag)
	}
}

func TestByteOkEnds(t *testing.T) {
	for n := int64(-1000); n <= 1000; n++ {
		if want := n > -1 && n < 256; impl.ByteOk(n) != want {
			t.Fatalf("ByteOk of %d: want %v", n, want)
		}
	}
	for _, n := range wrongBytes {
		if impl.ByteOk(n) {
			t.Fatalf("ByteOk of %d: want false", n)
		}
	}
}

func TestSumsAtTheEdges(t *testing.T) {
	for _, c := range []struct {
		a, b, want int64
		over       bool
	}{
		{0, 0, 0, false}, {1, 2, 3, false}, {127, 0, 127, false}, {127, 1, 128, false},
		{127, 127, 254, false}, {127, 128, 255, false}, {128, 127, 255, false}, {128, 128, 0, true},
		{0, 255, 255, false}, {255, 0, 255, false}, {254, 1, 255, false}, {255, 1, 0, true},
		{1, 255, 0, true}, {254, 2, 0, true}, {255, 2, 1, true}, {255, 255, 254, true},
	} {
		got, over := impl.AddByte(c.a, c.b)
		wantByte(t, "AddByte", c.a, c.b, got, over, c.want, c.over)
	}
}

func TestDifferencesAtTheEdges(t *testing.T) {
	for _, c := range []struct {
		a, b, want int64
		under      bool
	}{
		{0, 0, 0, false}, {3, 2, 1, false}, {127, 127, 0, false}, {128, 128, 0, false},
		{255, 255, 0, false}, {255, 254, 1, false}, {254, 255, 255, true}, {128, 127, 1, false},
		{127, 128, 255, true}, {0, 1, 255, true}, {1, 0, 1, false}, {0, 127, 129, true},
		{0, 128, 128, true}, {0, 255, 1, true}, {255, 0, 255, false}, {1, 255, 2, true},
	} {
		got, under := impl.SubByte(c.a, c.b)
		wantByte(t, "SubByte", c.a, c.b, got, under, c.want, c.under)
	}
}

func TestTurnsAtTheEdges(t *testing.T) {
	for _, c := range []struct {
		a, left int64
		high    bool
		right   int64
		odd     bool
	}{
		{0, 0, false, 0, false}, {1, 2, false, 128, true}, {2, 4, false, 1, false},
		{126, 252, false, 63, false}, {127, 254, false, 191, true},
		{128, 1, true, 64, false}, {129, 3, true, 192, true},
		{254, 253, true, 127, false}, {255, 255, true, 255, true},
	} {
		left, high := impl.TurnedLeft(c.a)
		wantByte(t, "TurnedLeft", c.a, 0, left, high, c.left, c.high)
		right, odd := impl.TurnedRight(c.a)
		wantByte(t, "TurnedRight", c.a, 0, right, odd, c.right, c.odd)
	}
}

func TestSumsAndDifferencesGoRound(t *testing.T) {
	for a := int64(0); a < 256; a++ {
		for b := int64(0); b < 256; b++ {
			sum, over := impl.AddByte(a, b)
			wantByte(t, "AddByte", a, b, sum, over, (a+b)%256, a+b >= 256)
			back, under := impl.SubByte(sum, b)
			wantByte(t, "SubByte of a sum", a, b, back, under, a, over)
			dif, under := impl.SubByte(a, b)
			wantByte(t, "SubByte", a, b, dif, under, (a-b+256)%256, a-b <= -1)
			back, over = impl.AddByte(dif, b)
			wantByte(t, "AddByte of a difference", a, b, back, over, a, under)
		}
	}
}

func TestTurnedThereAndBack(t *testing.T) {
	for a := int64(0); a < 256; a++ {
		high, low := a/128, a%2
		left, wasHigh := impl.TurnedLeft(a)
		wantByte(t, "TurnedLeft", a, 0, left, wasHigh, a*2%256+high, high == 1)
		right, wasOdd := impl.TurnedRight(a)
		wantByte(t, "TurnedRight", a, 0, right, wasOdd, a/2+128*low, low == 1)
		back, flag := impl.TurnedRight(left)
		wantByte(t, "TurnedRight of TurnedLeft", a, 0, back, flag, a, wasHigh)
		back, flag = impl.TurnedLeft(right)
		wantByte(t, "TurnedLeft of TurnedRight", a, 0, back, flag, a, wasOdd)
	}
}

func TestNoByteNumberIsNought(t *testing.T) {
	for _, n := range wrongBytes {
		for _, other := range append(append([]int64{}, edgeBytes...), wrongBytes...) {
			got, flag := impl.AddByte(n, other)
			wantByte(t, "AddByte", n, other, got, flag, 0, false)
			got, flag = impl.AddByte(other, n)
			wantByte(t, "AddByte", other, n, got, flag, 0, false)
			got, flag = impl.SubByte(n, other)
			wantByte(t, "SubByte", n, other, got, flag, 0, false)
			got, flag = impl.SubByte(other, n)
			wantByte(t, "SubByte", other, n, got, flag, 0, false)
		}
		got, flag := impl.TurnedLeft(n)
		wantByte(t, "TurnedLeft", n, 0, got, flag, 0, false)
		got, flag = impl.TurnedRight(n)
		wantByte(t, "TurnedRight", n, 0, got, flag, 0, false)
	}
}
