package names

// addFixed adds the fixed symbols to an empty table, in the order of their numbers in api.
func (t *Table) addFixed() {
	t.addAll(
		"nil", "t", "quote", "function", "`", ",", ",@",
		"lambda", "closure", "macro", "&rest", "&optional",
		"if", "cond", "and", "or", "while", "progn", "prog1", "setq", "let", "let*",
		"catch", "unwind-protect", "condition-case",
		"defvar", "defconst", "defun", "defmacro", "interactive",
		"funcall", "apply", "mapcar", "mapc", "eval", "throw", "signal",
		"error", "quit", "void-variable", "void-function",
		"wrong-type-argument", "wrong-number-of-arguments", "args-out-of-range",
		"arith-error", "overflow-error", "setting-constant", "no-catch",
		"invalid-function", "invalid-read-syntax", "end-of-file", "circular-list",
		"excessive-lisp-nesting", "memory-full", "text-read-only",
		"beginning-of-buffer", "end-of-buffer", "search-failed", "invalid-regexp",
		"user-error", "buffer-read-only", "cyclic-function-indirection",
	)
}

// addAll adds interned symbols with these names, which must be new.
func (t *Table) addAll(names ...string) {
	for _, s := range names {
		t.addInterned(s)
	}
}
