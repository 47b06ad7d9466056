package read_test

import (
	"strconv"
	"testing"

	"copyist/api"
)

const (
	shift = 1 << 25
	ctrl  = 1 << 26
	meta  = 1 << 27
)

// literal is a character literal without its question mark, and its value.
type literal struct {
	in   string
	want int
}

func checkLiterals(t *testing.T, literals []literal) {
	t.Helper()
	for _, x := range literals {
		check(t, []row{{"?" + x.in, strconv.Itoa(x.want)}})
	}
}

func TestPlainCharacters(t *testing.T) {
	for _, s := range "aAzZ09?#@.-+()[]\"'`,; \t\n\f\r\x00\v\x7fé一\ufffd\U0010ffff" {
		checkLiterals(t, []literal{{string(s), int(s)}})
	}
	d := newDesk(10)
	for _, s := range "()[]\"'`,; \t\n\f\r" {
		wantForm(t, d, "?a"+string(s), 0, "97", 2)
	}
	wantForm(t, d, "?()", 0, "40", 2)
	wantFault(t, d, "?;a", 0, api.ErrForm, 2)
}

func TestEscapedCharacters(t *testing.T) {
	checkLiterals(t, []literal{
		{`\n`, 10}, {`\t`, 9}, {`\e`, 27}, {`\s`, 32}, {`\d`, 127},
		{`\\`, '\\'}, {`\"`, '"'}, {`\?`, '?'}, {`\(`, '('}, {`\)`, ')'}, {`\;`, ';'}, {`\-`, '-'}, {`\ `, ' '},
		{"\\\n", 10}, {"\\\x00", 0}, {`\0`, '0'}, {`\9`, '9'}, {`\@`, '@'}, {`\[`, '['}, {"\\`", '`'}, {`\{`, '{'},
		{`\é`, 0xe9}, {"\\一", 0x4e00}, {"\\ａ", 0xff41}, // the last is a letter, but not ASCII
	})
	d := newDesk(10)
	for c := 'A'; c <= 'z'; c++ {
		switch c {
		case 'n', 't', 'e', 's', 'd', '[', '\\', ']', '^', '_', '`':
			continue
		}
		for _, after := range []string{"", " ", "-", "x", "-x", "-a"} {
			if after[:min(1, len(after))] == "-" && (c == 'C' || c == 'M' || c == 'S') {
				continue
			}
			wantFault(t, d, `?\`+string(c)+after, 0, api.ErrForm, 1)
		}
	}
	wantFault(t, d, `?\x41\`, 0, api.ErrForm, 1)
	wantFault(t, d, `?\s-a`, 0, api.ErrForm, 3)
}

func TestModifiers(t *testing.T) {
	checkLiterals(t, []literal{
		{`\C-a`, 1}, {`\C-z`, 26}, {`\C-@`, 0}, {`\C-A`, 1}, {`\C-Z`, 26}, {`\C-[`, 27}, {`\C-]`, 29}, {`\C-^`, 30}, {`\C-_`, 31},
		{`\C-?`, 127}, {`\C-\?`, 127}, {`\C-\\`, 28}, {`\C-\@`, 0}, {`\C-\_`, 31},
		{"\\C-`", ctrl + '`'}, {`\C-{`, ctrl + '{'}, {`\C->`, ctrl + '>'}, {`\C-%`, ctrl + '%'}, {`\C- `, ctrl + ' '},
		{`\C--`, ctrl + '-'}, {`\C-(`, ctrl + '('}, {`\C-0`, ctrl + '0'}, {"\\C-\x01", ctrl + 1}, {"\\C-\x7f", ctrl + 127},
		{`\C-é`, ctrl + 0xe9}, {"\\C-\U0010ffff", ctrl + 0x10ffff}, {"\\C-ａ", ctrl + 0xff41},
		{`\C-\n`, ctrl + 10}, {`\C-\t`, ctrl + 9}, {`\C-\e`, ctrl + 27}, {`\C-\s`, ctrl + 32}, {`\C-\d`, ctrl + 127}, {"\\C-\\\n", ctrl + 10},
		{`\M-a`, meta + 'a'}, {`\M-A`, meta + 'A'}, {`\M-?`, meta + '?'}, {`\M-\n`, meta + 10}, {`\M-\d`, meta + 127}, {`\M-;`, meta + ';'}, {`\M-é`, meta + 0xe9},
		{`\S-a`, shift + 'a'}, {`\S-A`, shift + 'A'}, {`\S-?`, shift + '?'}, {`\S-\s`, shift + 32}, {`\S-\\`, shift + '\\'}, {"\\S-\U0010ffff", shift + 0x10ffff},
		{`\C-\M-a`, meta + 1}, {`\M-\C-a`, meta + 1}, {`\C-\S-a`, shift + 1}, {`\S-\C-?`, shift + 127},
		{`\M-\S-a`, meta + shift + 'a'}, {`\S-\M-a`, meta + shift + 'a'}, {`\M-\C-%`, meta + ctrl + '%'}, {`\C-\S-%`, shift + ctrl + '%'},
		{`\C-\M-\S-%`, shift + ctrl + meta + '%'}, {`\S-\M-\C-%`, shift + ctrl + meta + '%'}, {`\M-\S-\C-x`, shift + meta + 24},
		{`\C-\C-a`, 1}, {`\C-\C-%`, ctrl + '%'}, {`\M-\M-a`, meta + 'a'}, {`\S-\S-a`, shift + 'a'}, {`\C-\M-\C-\M-a`, meta + 1},
		{`\C-C`, 3}, {`\M--`, meta + '-'}, {`\C-\-`, ctrl + '-'},
	})
}

func TestCharactersBeforeNoDelimiter(t *testing.T) {
	d := newDesk(10)
	for _, c := range "abc09?#.+-\\é\v\x00" {
		wantFault(t, d, "?a"+string(c), 0, api.ErrForm, 2)
		wantFault(t, d, "(?é"+string(c)+")", 0, api.ErrForm, 3)
		wantFault(t, d, `?\n`+string(c), 0, api.ErrForm, 3)
		wantFault(t, d, `?\C-\M-a`+string(c), 0, api.ErrForm, 8)
	}
	wantFault(t, d, "???", 0, api.ErrForm, 2)
	wantFault(t, d, `?C-a`, 0, api.ErrForm, 2)
	wantFault(t, d, `?\M-C-a`, 0, api.ErrForm, 5)
}

func TestBrokenModifiers(t *testing.T) {
	d := newDesk(10)
	for _, s := range []string{`\C`, `\M`, `\S`, `\C a`, `\Ca`, `\C)`, `\c-a`, `\m-a`, `\A-a`, `\H-a`, `\q`} {
		wantFault(t, d, "?"+s, 0, api.ErrForm, 1)
		wantFault(t, d, `?\M-`+s, 0, api.ErrForm, 4)
		wantFault(t, d, `(é ?\M-\C-`+s+`)`, 0, api.ErrForm, 10)
	}
	for _, s := range []string{"?", `?\`, `?\C-`, `?\M-`, `?\S-`, `?\C-\`, `?\C-\M-`, `?\C-\M-\`} {
		wantFault(t, d, s, 0, api.ErrForm, len(s))
		wantFault(t, d, "(é"+s, 0, api.ErrForm, 2+len(s))
	}
}
