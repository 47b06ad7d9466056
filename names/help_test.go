package names_test

import (
	"slices"
	"testing"

	"copyist/api"
	"copyist/names"
)

var (
	none = api.Word{}
	five = api.Word{Kind: api.KindInt, N: 5}
	six  = api.Word{Kind: api.KindInt, N: 6}
)

// fixed is the names of the fixed symbols by the constants of their numbers.
var fixed = map[int]string{
	api.SymNil: "nil", api.SymT: "t", api.SymQuote: "quote", api.SymFunction: "function",
	api.SymBack: "`", api.SymComma: ",", api.SymSplice: ",@",
	api.SymLambda: "lambda", api.SymClosure: "closure", api.SymMacro: "macro",
	api.SymRest: "&rest", api.SymOptional: "&optional",
	api.SymIf: "if", api.SymCond: "cond", api.SymAnd: "and", api.SymOr: "or",
	api.SymWhile: "while", api.SymProgn: "progn", api.SymProg1: "prog1", api.SymSetq: "setq",
	api.SymLet: "let", api.SymLetStar: "let*", api.SymCatch: "catch",
	api.SymUnwind: "unwind-protect", api.SymCondCase: "condition-case",
	api.SymDefvar: "defvar", api.SymDefconst: "defconst", api.SymDefun: "defun",
	api.SymDefmacro: "defmacro", api.SymInteractive: "interactive",
	api.SymFuncall: "funcall", api.SymApply: "apply", api.SymMapcar: "mapcar", api.SymMapc: "mapc",
	api.SymEval: "eval", api.SymThrow: "throw", api.SymSignal: "signal",
	api.SymError: "error", api.SymQuit: "quit",
	api.SymVoidVariable: "void-variable", api.SymVoidFunction: "void-function",
	api.SymWrongType: "wrong-type-argument", api.SymWrongNumber: "wrong-number-of-arguments",
	api.SymOutOfRange: "args-out-of-range", api.SymArith: "arith-error",
	api.SymOverflow: "overflow-error", api.SymSetConst: "setting-constant",
	api.SymNoCatch: "no-catch", api.SymInvalidFunction: "invalid-function",
	api.SymReadSyntax: "invalid-read-syntax", api.SymEndOfFile: "end-of-file",
	api.SymCircular: "circular-list", api.SymNesting: "excessive-lisp-nesting",
	api.SymMemory: "memory-full", api.SymTextReadOnly: "text-read-only",
	api.SymBufferStart: "beginning-of-buffer", api.SymBufferEnd: "end-of-buffer",
	api.SymSearchFailed: "search-failed", api.SymInvalidRegexp: "invalid-regexp",
	api.SymUserError: "user-error", api.SymBufferReadOnly: "buffer-read-only",
	api.SymCyclicFunction: "cyclic-function-indirection",
}

// invalid is the tables that neither New nor Copy has returned.
func invalid() map[string]*names.Table {
	return map[string]*names.Table{"nil": nil, "zero": {}}
}

func wantErr(t *testing.T, what string, e, want api.Errno) {
	t.Helper()
	if e != want {
		t.Errorf("%s: %v instead of %v", what, e, want)
	}
}

// wantSym checks the results of a call that returns a symbol.
func wantSym(t *testing.T, what string, n int, e api.Errno, want int, wantErr api.Errno) {
	t.Helper()
	if n != want || e != wantErr {
		t.Errorf("%s: %d, %v instead of %d, %v", what, n, e, want, wantErr)
	}
}

func wantFind(t *testing.T, x *names.Table, s string, want int, wantFound bool) {
	t.Helper()
	if n, found := x.Find(s); n != want || found != wantFound {
		t.Errorf("Find(%q): %d, %v instead of %d, %v", s, n, found, want, wantFound)
	}
}

func wantName(t *testing.T, x *names.Table, n int, want string, wantFound bool) {
	t.Helper()
	if s, found := x.Name(n); s != want || found != wantFound {
		t.Errorf("Name(%d): %q, %v instead of %q, %v", n, s, found, want, wantFound)
	}
}

func wantFunc(t *testing.T, x *names.Table, n int, want api.Word, wantFound bool) {
	t.Helper()
	if w, found := x.Func(n); w != want || found != wantFound {
		t.Errorf("Func(%d): %v, %v instead of %v, %v", n, w, found, want, wantFound)
	}
}

func wantProp(t *testing.T, x *names.Table, n, key int, want api.Word, wantFound bool) {
	t.Helper()
	if w, found := x.Prop(n, key); w != want || found != wantFound {
		t.Errorf("Prop(%d, %d): %v, %v instead of %v, %v", n, key, w, found, want, wantFound)
	}
}

func wantProps(t *testing.T, x *names.Table, n int, want ...api.Prop) {
	t.Helper()
	if l := x.Props(n); !slices.Equal(l, want) {
		t.Errorf("Props(%d): %v instead of %v", n, l, want)
	}
}

// fill interns new symbols until there are MaxSyms.
func fill(t *testing.T, x *names.Table) {
	t.Helper()
	for i := 0; x.Many() < api.MaxSyms; i++ {
		n, e := x.Intern("filler-" + string(rune(0x4e00+i)))
		if e != api.OK || n != x.Many()-1 {
			t.Fatal(i, n, e)
		}
	}
}
