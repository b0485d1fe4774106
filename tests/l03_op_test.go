package tests

import (
	"math"
	"strings"
	"testing"

	"loop.example/g00741/impl"
)

type opRow struct {
	name       string
	size, cost int64
}

// opRows: the document's table, the code being the place.
var opRows = []opRow{
	{"nop", 1, 1}, {"lda", 2, 2}, {"ldb", 2, 2}, {"mab", 1, 1}, {"mba", 1, 1},
	{"get", 2, 3}, {"put", 2, 3}, {"gib", 1, 2}, {"pib", 1, 2}, {"add", 2, 2},
	{"adb", 1, 1}, {"sub", 2, 2}, {"cmp", 2, 2}, {"and", 2, 2}, {"xor", 2, 2},
	{"rol", 1, 1}, {"ror", 1, 1}, {"inb", 1, 1}, {"deb", 1, 1}, {"jmp", 2, 3},
	{"jpz", 2, 3}, {"jnz", 2, 3}, {"jpc", 2, 3}, {"cal", 2, 4}, {"ret", 1, 4},
	{"psh", 1, 3}, {"pop", 1, 3}, {"eni", 1, 1}, {"dis", 1, 1}, {"rti", 1, 4},
	{"hlt", 1, 1},
}

const lastCode = 30

func wantLine(t *testing.T, code int64, want opRow) {
	t.Helper()
	got := opRow{impl.NameOf(code), impl.SizeOf(code), impl.CostOf(code)}
	if got != want {
		t.Fatalf("the line of code %d: got %+v, want %+v", code, got, want)
	}
}

func wantCode(t *testing.T, name string, want int64) {
	t.Helper()
	if got := impl.CodeOf(name); got != want {
		t.Fatalf("CodeOf of %q: got %d, want %d", name, got, want)
	}
}

// codeByTable: the code of a name by the table alone.
func codeByTable(name string) int64 {
	for code, row := range opRows {
		if row.name == name {
			return int64(code)
		}
	}
	return -1
}

func TestEachLineOfTheTable(t *testing.T) {
	if len(opRows) != lastCode+1 {
		t.Fatalf("the table has %d lines, want %d", len(opRows), lastCode+1)
	}
	for code, row := range opRows {
		wantLine(t, int64(code), row)
		wantCode(t, row.name, int64(code))
	}
}

func TestFirstAndLastCode(t *testing.T) {
	wantLine(t, -1, opRow{})
	wantLine(t, 0, opRow{"nop", 1, 1})
	wantLine(t, 30, opRow{"hlt", 1, 1})
	wantLine(t, 31, opRow{})
	wantCode(t, "nop", 0)
	wantCode(t, "hlt", 30)
}

func TestOneNameOneCode(t *testing.T) {
	seen := map[string]int64{}
	for code := int64(-300); code <= 300; code++ {
		name := impl.NameOf(code)
		if name == "" {
			continue
		}
		if other, twice := seen[name]; twice {
			t.Fatalf("%q is the name of %d and of %d", name, other, code)
		}
		seen[name] = code
		wantCode(t, name, code)
	}
	if len(seen) != lastCode+1 {
		t.Fatalf("%d codes have a name, want %d", len(seen), lastCode+1)
	}
}

func TestOneCodeOneName(t *testing.T) {
	seen := map[int64]string{}
	const letters = "abcdefghijklmnopqrstuvwxyz"
	for i := range 26 * 26 * 26 {
		name := string([]byte{letters[i/676], letters[i/26%26], letters[i%26]})
		code := impl.CodeOf(name)
		if code == -1 {
			continue
		}
		if other, twice := seen[code]; twice {
			t.Fatalf("%d is the code of %q and of %q", code, other, name)
		}
		seen[code] = name
		if got := impl.NameOf(code); got != name {
			t.Fatalf("NameOf of %d, the code of %q: got %q", code, name, got)
		}
	}
	if len(seen) != lastCode+1 {
		t.Fatalf("%d names have a code, want %d", len(seen), lastCode+1)
	}
}

func TestNoSuchCode(t *testing.T) {
	for code := int64(1); code <= 1000; code++ {
		wantLine(t, -code, opRow{})
		wantLine(t, lastCode+code, opRow{})
	}
	for _, code := range wrongBytes {
		wantLine(t, code, opRow{})
	}
	// All of these would pass for a code if only some of their bits were kept.
	for code := int64(0); code <= lastCode; code++ {
		for shift := 5; shift < 64; shift++ {
			wantLine(t, code+1<<shift, opRow{})
			wantLine(t, code-1<<shift, opRow{})
		}
		wantLine(t, math.MinInt64+code, opRow{})
		wantLine(t, math.MaxInt64-code, opRow{})
	}
}

func TestNoNameAtAll(t *testing.T) {
	wantCode(t, "", -1)
	for _, name := range []string{
		"n", "byte", "zzz", "-", "-1", "0", "30", "\x00", "\x00\x00\x00", "\n", "   ", "nop lda", "noplda", "lda 1",
		"nöp", "\xff\xfe\xfd", strings.Repeat("nop", 1000), strings.Repeat("x", 100000),
	} {
		wantCode(t, name, -1)
	}
}

func TestNamesThatAreNearlyRight(t *testing.T) {
	for _, row := range opRows {
		name := row.name
		for _, wrong := range []string{
			name[:1], name[:2], name[1:], name[2:], name + name,
			strings.ToUpper(name), strings.ToUpper(name[:1]) + name[1:], name[:2] + strings.ToUpper(name[2:]),
		} {
			wantCode(t, wrong, -1)
		}
		for sign := range 256 {
			more := string([]byte{byte(sign)})
			wantCode(t, more+name, -1)
			wantCode(t, name+more, -1)
			for place := range name {
				near := name[:place] + more + name[place+1:]
				wantCode(t, near, codeByTable(near))
			}
		}
	}
}
