/- What the reader answers, in plain terms: chapter 5 as a function of the characters, the heap and the table. -/
import Derived.Test.YtbbopdkbokbafaaGreatDoorHpMade
import Derived.Test.YtbbopdkbokbafaaGreatDoorNmCalls2
import Derived.Test.YtbbopdkbokbafaaGreatDoorNmPlain2
namespace Go.Proofs.YtbbopdkbokbafaaGreatDoor
open Go.RowKit Go.Lib
/-- What the creation of an object answers where no number is free below. -/
def Hp.make (m : Hp) (o : Ob) : Hp × Wd × Int :=
  if m.obs.length = m.lim ∨ 1048576 < total m.obs + o.size then (m, (0, 0), 7) else (m.addNew o, (o.kind, m.obs.length), 0)
/-- The state that forms share: the heap, the table; where the reader stands, how many brackets and prefixes are open. -/
structure Rs where
  h : Hp
  t : Tb
  pos : Nat
  opn : Nat
/-- What a part of the reader leaves: a value and the state; a fault, its position and the state; or it did not end within the rounds given. -/
inductive Out (α : Type) where
  | ok (a : α) (s : Rs)
  | bad (er at_ : Int) (s : Rs)
  | lost
/-- The same for what touches neither heap nor table: only the position. -/
inductive Got (α : Type) where
  | ok (a : α) (pos : Nat)
  | bad (er at_ : Int)
  | lost
def blank (c : Int) : Bool := c == 9 || c == 10 || c == 12 || c == 13 || c == 32
def delim (c : Int) : Bool := c == 40 || c == 41 || c == 91 || c == 93 || c == 34 || c == 39 || c == 96 || c == 44 || c == 59 || blank c
def ends (c : Int) : Bool := c == -1 || delim c
/-- The character at a position; -1 at the end. -/
def ch (L : List Int) (p : Nat) : Int := (L[p]?).getD (-1)
/-- How many blanks and characters of comments stand at the front. -/
def skipN : Bool → List Int → Nat
  | _, [] => 0
  | true, c :: r => (if c = 10 then skipN false r else skipN true r) + 1
  | false, c :: r => if blank c then skipN false r + 1 else if c = 59 then skipN true r + 1 else 0
def skipTo (L : List Int) (p : Nat) : Nat := p + skipN false (L.drop p)
def nextG (L : List Int) (p : Nat) : Got Int := if ch L p = -1 then .bad 5 p else .ok (ch L p) (p + 1)
/-- The characters of a token, and whether there was no backslash. -/
def tokG (L : List Int) : Nat → Nat → List Int → Bool → Got (List Int × Bool)
  | 0, _, _, _ => .lost
  | k + 1, p, acc, pl =>
    if ends (ch L p) then .ok (acc, pl) p
    else if ch L p = 92 then (if ch L (p + 1) = -1 then .bad 5 ((p + 1 : Nat) : Int) else tokG L k (p + 2) (acc ++ [ch L (p + 1)]) false)
    else tokG L k (p + 1) (acc ++ [ch L p]) pl
def isDig (c : Int) : Bool := decide (48 ≤ c) && decide (c ≤ 57)
def unsigned : List Int → List Int
  | c :: r => if c = 43 ∨ c = 45 then r else c :: r
  | [] => []
def isIntC (l : List Int) : Bool := unsigned l != [] && (unsigned l).all isDig
def decV : List Int → Nat → Nat
  | [], n => n
  | c :: r, n => decV r (n * 10 + (c - 48).toNat)
def intV (l : List Int) : Int := if l.head? = some 45 then -(decV (unsigned l) 0 : Int) else decV (unsigned l) 0
def nameOf (l : List Int) : ByteArray := ⟨(encD l).toArray⟩
/-- The symbol with a name. -/
def internO (s : Rs) (l : List Int) (start : Int) : Out Wd :=
  if (s.t.intern (nameOf l)).2.1 ≠ 0 then .bad (s.t.intern (nameOf l)).2.1 start { s with t := (s.t.intern (nameOf l)).2.2 }
  else .ok (1, (s.t.intern (nameOf l)).1) { s with t := (s.t.intern (nameOf l)).2.2 }
def tokenO (L : List Int) (n : Nat) (s : Rs) : Out Wd :=
  match tokG L n s.pos [] true with
  | .lost => .lost
  | .bad er a => .bad er a s
  | .ok (l, pl) p =>
    if pl = true ∧ l = [46] then .bad 5 s.pos { s with pos := p }
    else if pl = true ∧ isIntC l = true then
      (if intV l < -2305843009213693952 ∨ 2305843009213693951 < intV l then .bad 15 s.pos { s with pos := p } else .ok (0, intV l) { s with pos := p })
    else internO { s with pos := p } l s.pos
def isHex (c : Int) : Bool := (decide (48 ≤ c) && decide (c ≤ 57)) || (decide (97 ≤ c) && decide (c ≤ 102)) || (decide (65 ≤ c) && decide (c ≤ 70))
def hexV (c : Int) : Int := if c ≤ 57 then c - 48 else c % 32 + 9
/-- At most k hexadecimal digits. -/
def numG (L : List Int) : Nat → Nat → Int → Int × Nat
  | 0, p, n => (n, p)
  | k + 1, p, n => if isHex (ch L p) then numG L k (p + 1) (16 * n + hexV (ch L p)) else (n, p)
/-- The number in an escape: the digits and the backslash behind it. -/
def numberedG (L : List Int) (start p : Nat) : Got Int :=
  let q := numG L 6 p 0
  if q.2 = p + 6 ∧ isZ q.1 = false then .bad 5 start
  else if ch L q.2 = -1 then .bad 5 q.2
  else if ch L q.2 ≠ 92 ∨ q.2 = p ∨ isZ q.1 = false then .bad 5 start
  else .ok q.1 (q.2 + 1)
def control (c : Int) : Option Int := if c = 110 then some 10 else if c = 116 then some 9 else if c = 101 then some 27 else none
/-- What follows a backslash (at start) in a string: the characters written. -/
def escapeG (L : List Int) (start : Nat) : Got (List Int) :=
  let c := ch L (start + 1)
  if c = -1 then .bad 5 ((start + 1 : Nat) : Int)
  else if c = 10 then .ok [] (start + 2)
  else if c = 92 ∨ c = 34 then .ok [c] (start + 2)
  else if c = 120 then (match numberedG L start (start + 2) with | .ok n p => .ok [n] p | .bad er a => .bad er a | .lost => .lost)
  else match control c with
    | some x => .ok [x] (start + 2)
    | none => .bad 5 start
/-- The characters of a string from p on, the quote at its end consumed. -/
def strG (L : List Int) : Nat → Nat → List Int → Got (List Int)
  | 0, _, _ => .lost
  | k + 1, p, acc =>
    if ch L p = -1 then .bad 5 p
    else if ch L p = 34 then .ok acc (p + 1)
    else if ch L p = 92 then (match escapeG L p with | .ok l q => strG L k q (acc ++ l) | .bad er a => .bad er a | .lost => .lost)
    else strG L k (p + 1) (acc ++ [ch L p])
/-- An object, or the fault that there is no room for it. -/
def makeO (s : Rs) (o : Ob) (start : Int) : Out Wd :=
  if (s.h.make o).2.2 ≠ 0 then .bad (s.h.make o).2.2 start { s with h := (s.h.make o).1 } else .ok (s.h.make o).2.1 { s with h := (s.h.make o).1 }
def textO (s : Rs) (l : List Int) (start : Int) : Out Wd :=
  if 65536 < l.length then .bad 4 start s else makeO s (.text (nameOf l) l.length) start
def quotationO (L : List Int) (n : Nat) (s : Rs) : Out Wd :=
  match strG L n (s.pos + 1) [] with
  | .lost => .lost
  | .bad er a => .bad er a s
  | .ok l p => textO { s with pos := p } l s.pos
def modBit (c : Int) : Int := if c = 67 then 67108864 else if c = 77 then 134217728 else if c = 83 then 33554432 else 0
/-- The modifiers from p on: which of them, and where they end. -/
def modsG (L : List Int) : Nat → Nat → Bool × Bool × Bool → Got (Bool × Bool × Bool)
  | 0, _, _ => .lost
  | k + 1, p, m =>
    if ch L p = 92 ∧ ch L (p + 2) = 45 then
      (if ch L (p + 1) = 67 then modsG L k (p + 3) (true, m.2.1, m.2.2)
       else if ch L (p + 1) = 77 then modsG L k (p + 3) (m.1, true, m.2.2)
       else if ch L (p + 1) = 83 then modsG L k (p + 3) (m.1, m.2.1, true)
       else .ok m p)
    else .ok m p
def modV (m : Bool × Bool × Bool) : Int := (if m.1 then 67108864 else 0) + (if m.2.1 then 134217728 else 0) + (if m.2.2 then 33554432 else 0)
def isLet (c : Int) : Bool := (decide (97 ≤ c) && decide (c ≤ 122)) || (decide (65 ≤ c) && decide (c ≤ 90))
/-- What follows a backslash (at start) in a character literal. -/
def escapedG (L : List Int) (start : Nat) : Got Int :=
  let c := ch L (start + 1)
  if c = -1 then .bad 5 ((start + 1 : Nat) : Int)
  else if c = 115 then .ok 32 (start + 2)
  else if c = 100 then .ok 127 (start + 2)
  else if isLet c then (match control c with | some x => .ok x (start + 2) | none => .bad 5 start)
  else .ok c (start + 2)
def modified (c : Int) (m : Bool × Bool × Bool) : Int :=
  if m.1 = false then c + modV m
  else if (97 ≤ c ∧ c ≤ 122) ∨ (64 ≤ c ∧ c ≤ 95) then c % 32 + modV m - 67108864
  else if c = 63 then 127 + modV m - 67108864
  else c + modV m
def charG (L : List Int) (n p : Nat) : Got Int :=
  match modsG L n (p + 1) (false, false, false) with
  | .lost => .lost
  | .bad er a => .bad er a
  | .ok m q =>
    if ch L q = -1 then .bad 5 q
    else match (if ch L q = 92 then escapedG L q else .ok (ch L q) (q + 1)) with
      | .lost => .lost
      | .bad er a => .bad er a
      | .ok c r => if ends (ch L r) then .ok (modified c m) r else .bad 5 r
def characterO (L : List Int) (n : Nat) (s : Rs) : Out Wd :=
  match charG L n s.pos with
  | .lost => .lost
  | .bad er a => .bad er a s
  | .ok c p => .ok (0, c) { s with pos := p }
/-- The conses of a list, the last first: the elements come backwards. -/
def chainO (start : Int) : Rs → List Wd → Wd → Out Wd
  | s, [], last => .ok last s
  | s, a :: r, last => match makeO s (.pair a last) start with
    | .ok x s' => chainO start s' r x
    | .bad er p s' => .bad er p s'
    | .lost => .lost
def atDot (L : List Int) (p : Nat) : Bool := ch L p == 46 && ends (ch L (p + 1))
/-- A dot and the form that ends a list. -/
def tailO (L : List Int) (rd : Rs → Out Wd) (s : Rs) : Out Wd :=
  match rd { s with pos := s.pos + 1 } with
  | .lost => .lost
  | .bad er a s' => .bad er a s'
  | .ok x s' => if ch L (skipTo L s'.pos) = 41 then .ok x { s' with pos := skipTo L s'.pos } else .bad 5 (skipTo L s'.pos) { s' with pos := skipTo L s'.pos }
/-- The elements of a list up to its bracket, and what ends it. -/
def elemsO (L : List Int) (rd : Rs → Out Wd) : Nat → Rs → List Wd → Out (List Wd × Wd)
  | 0, _, _ => .lost
  | k + 1, s, acc =>
    if ch L (skipTo L s.pos) = 41 then .ok (acc, (1, 0)) { s with pos := skipTo L s.pos }
    else if 0 < acc.length ∧ atDot L (skipTo L s.pos) = true then
      (match tailO L rd { s with pos := skipTo L s.pos } with | .ok x s' => .ok (acc, x) s' | .bad er a s' => .bad er a s' | .lost => .lost)
    else match rd { s with pos := skipTo L s.pos } with
      | .ok x s' => elemsO L rd k s' (acc ++ [x])
      | .bad er a s' => .bad er a s'
      | .lost => .lost
/-- The elements of a vector. -/
def itemsO (L : List Int) (rd : Rs → Out Wd) : Nat → Rs → List Wd → Out (List Wd)
  | 0, _, _ => .lost
  | k + 1, s, acc =>
    if ch L (skipTo L s.pos) = 93 then .ok acc { s with pos := skipTo L s.pos }
    else match rd { s with pos := skipTo L s.pos } with
      | .ok x s' => itemsO L rd k s' (acc ++ [x])
      | .bad er a s' => .bad er a s'
      | .lost => .lost
def listO (L : List Int) (rd : Rs → Out Wd) (n : Nat) (s : Rs) : Out Wd :=
  if s.opn = 200 then .bad 12 s.pos s
  else match elemsO L rd n { s with opn := s.opn + 1, pos := s.pos + 1 } [] with
    | .lost => .lost
    | .bad er a s' => .bad er a s'
    | .ok (l, x) s' => chainO s.pos { s' with opn := s'.opn - 1, pos := s'.pos + 1 } l.reverse x
def vectorO (L : List Int) (rd : Rs → Out Wd) (n : Nat) (s : Rs) : Out Wd :=
  if s.opn = 200 then .bad 12 s.pos s
  else match itemsO L rd n { s with opn := s.opn + 1, pos := s.pos + 1 } [] with
    | .lost => .lost
    | .bad er a s' => .bad er a s'
    | .ok l s' => makeO { s' with opn := s'.opn - 1, pos := s'.pos + 1 } (.vec l) s.pos
/-- A prefix of n characters, which stands for a fixed symbol, and its form. -/
def prefixedO (rd : Rs → Out Wd) (n : Nat) (name : Int) (s : Rs) : Out Wd :=
  if s.opn = 200 then .bad 12 s.pos s
  else match rd { s with opn := s.opn + 1, pos := s.pos + n } with
    | .lost => .lost
    | .bad er a s' => .bad er a s'
    | .ok x s' => chainO s.pos { s' with opn := s'.opn - 1 } [x, (1, name)] (1, 0)
def hashO (L : List Int) (rd : Rs → Out Wd) (s : Rs) : Out Wd :=
  if ch L (s.pos + 1) = 39 then prefixedO rd 2 3 s
  else if ch L (s.pos + 1) = 35 ∧ ends (ch L (s.pos + 2)) = true then internO { s with pos := s.pos + 2 } [] s.pos
  else .bad 5 s.pos s
/-- A form by its first character, no blank before it. -/
def formAt (L : List Int) (rd : Rs → Out Wd) (n : Nat) (s : Rs) : Out Wd :=
  let c := ch L s.pos
  if c = 40 then listO L rd n s
  else if c = 91 then vectorO L rd n s
  else if c = 39 then prefixedO rd 1 2 s
  else if c = 96 then prefixedO rd 1 4 s
  else if c = 44 then (if ch L (s.pos + 1) = 64 then prefixedO rd 2 6 s else prefixedO rd 1 5 s)
  else if c = 35 then hashO L rd s
  else if c = 34 then quotationO L n s
  else if c = 63 then characterO L n s
  else if c = 41 ∨ c = 93 ∨ c = -1 then .bad 5 s.pos s
  else tokenO L n s
/-- A form; n bounds the depth and the rounds. -/
def formO (L : List Int) : Nat → Rs → Out Wd
  | 0, _ => .lost
  | n + 1, s => formAt L (formO L n) n { s with pos := skipTo L s.pos }
end Go.Proofs.YtbbopdkbokbafaaGreatDoor
