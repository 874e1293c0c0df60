package asm_test

import (
	"math/big"
	"regexp"
	"slices"
	"strconv"
	"strings"
	"testing"

	"wicketgate/api"
)

// The codes that a filter may have, and which fields stand in their lines, in which order: row by row as the chapters 2 and 8 tell it.
var chapter = []struct {
	fields string
	row    string
}{
	{"K", "20 ld.abs"},
	{"", "80 ld.len, 81 ldx.len, 16 ret.a, 84 neg, 07 tax, 87 txa"},
	{"K", "06 ret.k, 00 ld.imm, 01 ldx.imm, 04 add.k, 14 sub.k, 24 mul.k, 34 div.k, 44 or.k, 54 and.k, 64 lsh.k, 74 rsh.k, a4 xor.k"},
	{"", "0c add.x, 1c sub.x, 2c mul.x, 3c div.x, 4c or.x, 5c and.x, 6c lsh.x, 7c rsh.x, ac xor.x"},
	{"K", "60 ld.mem, 61 ldx.mem, 02 st, 03 stx"},
	{"K", "05 ja"},
	{"K Jt Jf", "15 jeq.k, 25 jgt.k, 35 jge.k, 45 jset.k"},
	{"Jt Jf", "1d jeq.x, 2d jgt.x, 3d jge.x, 4d jset.x"},
}

type entry struct {
	code   uint16
	name   string
	fields []string
}

// table answers the chapters' table, by rising codes.
func table(t testing.TB) []entry {
	t.Helper()
	var all []entry
	for _, r := range chapter {
		for _, pair := range strings.Split(r.row, ", ") {
			digits, name, _ := strings.Cut(pair, " ")
			code, err := strconv.ParseUint(digits, 16, 16)
			if err != nil {
				t.Fatal(err)
			}
			all = append(all, entry{uint16(code), name, strings.Fields(r.fields)})
		}
	}
	if len(all) != 41 {
		t.Fatal(len(all))
	}
	slices.SortFunc(all, func(a, b entry) int { return int(a.code) - int(b.code) })
	return all
}

// written answers x's line, and whether it has one, as the chapter's words tell it.
func written(all []entry, x api.Insn) (string, bool) {
	at := slices.IndexFunc(all, func(e entry) bool { return e.code == x.Code })
	if at < 0 {
		return "", false
	}
	left := map[string]uint32{"K": x.K, "Jt": uint32(x.Jt), "Jf": uint32(x.Jf)}
	parts := []string{all[at].name}
	for _, field := range all[at].fields {
		parts = append(parts, big.NewInt(int64(left[field])).String())
		left[field] = 0
	}
	if left["K"] != 0 || left["Jt"] != 0 || left["Jf"] != 0 {
		return "", false
	}
	return strings.Join(parts, " "), true
}

var decimal = regexp.MustCompile(`\A(0|[1-9][0-9]*)\z`)

// told answers the instruction whose line this is, and whether it is one's, as the chapter's words tell it.
func told(all []entry, line string) (api.Insn, bool) {
	parts := strings.Split(line, " ")
	at := slices.IndexFunc(all, func(e entry) bool { return e.name == parts[0] })
	if at < 0 || len(parts) != 1+len(all[at].fields) {
		return api.Insn{}, false
	}
	x := api.Insn{Code: all[at].code}
	for i, field := range all[at].fields {
		n, ok := new(big.Int).SetString(parts[i+1], 10)
		most := big.NewInt(255)
		if field == "K" {
			most = big.NewInt(4294967295)
		}
		if !decimal.MatchString(parts[i+1]) || !ok || n.Cmp(most) > 0 {
			return api.Insn{}, false
		}
		switch field {
		case "K":
			x.K = uint32(n.Uint64())
		case "Jt":
			x.Jt = uint8(n.Uint64())
		case "Jf":
			x.Jf = uint8(n.Uint64())
		}
	}
	return x, true
}

// toldAll answers what the chapter's words say of Parse, going through the text from its end: the last line that is found to be wrong is the first one.
func toldAll(all []entry, text string) ([]api.Insn, int, api.Errno) {
	if len(text) > 8192 {
		return nil, 0, api.ErrLong
	}
	rows := strings.Split(text, "\n")
	place := len(text) - len(rows[len(rows)-1])
	wrong := -1
	if place < len(text) {
		wrong = place
	}
	l := make([]api.Insn, len(rows)-1)
	for i := len(rows) - 2; i >= 0; i-- {
		place -= len(rows[i]) + 1
		x, ok := told(all, rows[i])
		l[i] = x
		if !ok || i >= 255 {
			wrong = place
		}
	}
	if wrong >= 0 {
		return nil, wrong, api.ErrAsm
	}
	return l, 0, api.OK
}

// sequences hands each sequence of n items of an alphabet to tell.
func sequences[T any](n int, alphabet []T, tell func([]T)) {
	l := make([]T, n)
	var fill func(i int)
	fill = func(i int) {
		if i == n {
			tell(l)
			return
		}
		for _, x := range alphabet {
			l[i] = x
			fill(i + 1)
		}
	}
	fill(0)
}

// dice answers a function that answers numbers below what it is asked, others for each seed.
func dice(seed uint64) func(below int) int {
	return func(below int) int {
		seed = seed*6364136223846793005 + 1442695040888963407
		return int(seed >> 33 % uint64(below))
	}
}

// number answers one that is as often short as long.
func number(next func(below int) int) uint32 {
	return uint32(next(1<<31)<<1|next(2)) >> next(32)
}

// mixed answers n instructions that have lines, others for each seed.
func mixed(all []entry, n int, seed uint64) []api.Insn {
	next := dice(seed)
	l := make([]api.Insn, n)
	for i := range l {
		e := all[next(len(all))]
		l[i].Code = e.code
		for _, field := range e.fields {
			switch field {
			case "K":
				l[i].K = number(next)
			case "Jt":
				l[i].Jt = uint8(next(256))
			case "Jf":
				l[i].Jf = uint8(next(256))
			}
		}
	}
	return l
}
