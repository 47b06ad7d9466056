/- What Collect's walk marks, as plain data: what is reachable from the roots. -/
import Derived.Test.YtleppjdmcjocmaaDoorHpVisit
namespace Go.Proofs.YtleppjdmcjocmaaDoor
open Go.RowKit Go.Lib
def Hp.visits (m : Hp) (s : List Bool × List Nat) (l : List Wd) : List Bool × List Nat := l.foldl m.visit s
theorem Hp.visits_take (m : Hp) (s : List Bool × List Nat) (l : List Wd) (k : Nat) (a : Wd) (h : l[k]? = some a) : m.visits s (l.take (k + 1)) = m.visit (m.visits s (l.take k)) a := by
  rw [List.take_add_one, h]
  simp [Hp.visits]
/-- The objects that can be reached from roots. -/
inductive Hp.Reach (m : Hp) (R : List Wd) : Nat → Prop where
  | root (x : Wd) (o : Ob) : x ∈ R → m.find x = some o → Hp.Reach m R x.2.toNat
  | step (i : Nat) (o : Ob) (x : Wd) (o' : Ob) : Hp.Reach m R i → m.obs[i]? = some (some o) → x ∈ o.words → m.find x = some o' → Hp.Reach m R x.2.toNat
theorem Hp.find_at {m : Hp} {x : Wd} {o : Ob} (h : m.find x = some o) : m.obs[x.2.toNat]? = some (some o) := by
  unfold Hp.find at h
  by_cases h0 : 0 ≤ x.2
  · rw [if_pos h0] at h
    cases ho : m.obs[x.2.toNat]? with
    | none => rw [ho] at h; cases h
    | some u =>
      cases u with
      | none => rw [ho] at h; cases h
      | some o' =>
        rw [ho] at h
        simp only at h
        by_cases hk : o'.kind = x.1
        · rw [if_pos hk] at h; rw [Option.some.inj h]
        · rw [if_neg hk] at h; cases h
  · rw [if_neg h0] at h; cases h
/-- A word whose object, if there is one, is marked. -/
def Hp.done (m : Hp) (b : List Bool) (x : Wd) : Prop := ∀ o, m.find x = some o → b[x.2.toNat]? = some true
theorem visit_cases (m : Hp) (s : List Bool × List Nat) (x : Wd) (hl : s.1.length = m.obs.length) :
    (m.visit s x = s ∧ m.done s.1 x) ∨ ∃ o, m.find x = some o ∧ s.1[x.2.toNat]? = some false ∧ m.visit s x = (s.1.set x.2.toNat true, s.2 ++ [x.2.toNat]) := by
  unfold Hp.visit
  cases hx : m.find x with
  | none => exact .inl ⟨rfl, fun o ho => by rw [hx] at ho; cases ho⟩
  | some o =>
    have hi := (List.getElem?_eq_some_iff.1 (Hp.find_at hx)).1
    obtain ⟨b, hb⟩ : ∃ b, s.1[x.2.toNat]? = some b := ⟨_, List.getElem?_eq_getElem (by omega)⟩
    cases b with
    | true => exact .inl ⟨by simp only [hb]; simp, fun o' _ => hb⟩
    | false => exact .inr ⟨o, rfl, hb, by simp only [hb]; simp⟩
structure Visited (m : Hp) (s t : List Bool × List Nat) (l : List Wd) : Prop where
  len : t.1.length = s.1.length
  keep : ∀ j : Nat, s.1[j]? = some true → t.1[j]? = some true
  done : ∀ x ∈ l, m.done t.1 x
  new : ∀ j : Nat, t.1[j]? = some true → s.1[j]? = some true ∨ (j ∈ t.2 ∧ ∃ x ∈ l, ∃ o, m.find x = some o ∧ x.2.toNat = j)
  stay : ∀ j : Nat, j ∈ s.2 → j ∈ t.2
  mark : ∀ j : Nat, j ∈ t.2 → j ∈ s.2 ∨ t.1[j]? = some true
  sum : t.2.length + t.1.count false = s.2.length + s.1.count false
theorem visits_any (m : Hp) : ∀ (l : List Wd) (s : List Bool × List Nat), s.1.length = m.obs.length → Visited m s (m.visits s l) l
  | [], s, _ => ⟨rfl, fun _ h => h, (fun x hx => by cases hx), fun _ h => .inl h, fun _ h => h, fun _ h => .inl h, rfl⟩
  | x :: l, s, hl => by
    have e : m.visits s (x :: l) = m.visits (m.visit s x) l := rfl
    rw [e]
    rcases visit_cases m s x hl with ⟨h1, h2⟩ | ⟨o, h1, h2, h3⟩
    · rw [h1]
      obtain ⟨a1, a2, a3, a4, a5, a6, a7⟩ := visits_any m l s hl
      refine ⟨a1, a2, fun y hy => ?_, fun j hj => ?_, a5, a6, a7⟩
      · rcases List.mem_cons.1 hy with rfl | hy
        · exact fun o ho => a2 _ (h2 o ho)
        · exact a3 y hy
      · rcases a4 j hj with h | ⟨h4, y, h5, h6⟩
        · exact .inl h
        · exact .inr ⟨h4, y, List.mem_cons_of_mem _ h5, h6⟩
    · rw [h3]
      have hi := (List.getElem?_eq_some_iff.1 h2).1
      obtain ⟨a1, a2, a3, a4, a5, a6, a7⟩ := visits_any m l (s.1.set x.2.toNat true, s.2 ++ [x.2.toNat]) (by simpa using hl)
      have hx : (s.1.set x.2.toNat true)[x.2.toNat]? = some true := by simp [hi]
      have hset : ∀ j, s.1[j]? = some true → (s.1.set x.2.toNat true)[j]? = some true := fun j hj => by
        by_cases hjx : x.2.toNat = j
        · subst hjx; exact hx
        · rw [List.getElem?_set_ne hjx]; exact hj
      refine ⟨by simpa using a1, fun j hj => a2 j (hset j hj), fun y hy => ?_, fun j hj => ?_, fun j hj => a5 j (by simp [hj]), fun j hj => ?_, ?_⟩
      · rcases List.mem_cons.1 hy with rfl | hy
        · exact fun o ho => a2 _ hx
        · exact a3 y hy
      · rcases a4 j hj with h | ⟨h4, y, h5, h6⟩
        · by_cases hjx : x.2.toNat = j
          · exact .inr ⟨a5 j (by simp [hjx]), x, List.mem_cons_self .., o, h1, hjx⟩
          · exact .inl (by rwa [List.getElem?_set_ne hjx] at h)
        · exact .inr ⟨h4, y, List.mem_cons_of_mem _ h5, h6⟩
      · rcases a6 j hj with h | h
        · rcases List.mem_append.1 h with h | h
          · exact .inl h
          · simp at h
            subst h
            exact .inr (a2 _ hx)
        · exact .inr h
      · have := count_set_false s.1 _ h2
        simp at a7
        omega
/-- What holds between two rounds. -/
structure Marked (m : Hp) (R : List Wd) (s : List Bool × List Nat) : Prop where
  len : s.1.length = m.obs.length
  only : ∀ j : Nat, s.1[j]? = some true → m.Reach R j
  roots : ∀ x ∈ R, m.done s.1 x
  stack : ∀ j : Nat, j ∈ s.2 → s.1[j]? = some true
  rest : ∀ (j : Nat) (o : Ob), s.1[j]? = some true → m.obs[j]? = some (some o) → j ∈ s.2 ∨ ∀ x ∈ o.words, m.done s.1 x
theorem Marked.start (m : Hp) (R : List Wd) : Marked m R (m.visits (List.replicate m.obs.length false, []) R) := by
  have hf : ∀ j : Nat, (List.replicate m.obs.length false)[j]? ≠ some true := fun j h => by
    have h2 := List.mem_of_getElem? h
    have := List.eq_of_mem_replicate h2
    cases this
  obtain ⟨a1, _, a3, a4, _, a6, _⟩ := visits_any m R (List.replicate m.obs.length false, []) (by simp)
  refine ⟨by simpa using a1, fun j hj => ?_, a3, fun j hj => ?_, fun j o hj _ => ?_⟩
  · rcases a4 j hj with h | ⟨_, x, h5, o, h6, rfl⟩
    · exact absurd h (hf j)
    · exact .root x o h5 h6
  · rcases a6 j hj with h | h
    · cases h
    · exact h
  · rcases a4 j hj with h | ⟨h, _⟩
    · exact absurd h (hf j)
    · exact .inl h
theorem Marked.round {m : Hp} {R : List Wd} {b : List Bool} {st : List Nat} {i : Nat} {o : Ob} (h : Marked m R (b, st ++ [i])) (ho : m.obs[i]? = some (some o)) : Marked m R (m.visits (b, st) o.words) := by
  obtain ⟨h1, h2, h3, h4, h5⟩ := h
  obtain ⟨a1, a2, a3, a4, a5, a6, _⟩ := visits_any m o.words (b, st) h1
  have hi : b[i]? = some true := h4 i (by simp)
  refine ⟨a1.trans h1, fun j hj => ?_, fun x hx o' ho' => a2 _ (h3 x hx o' ho'), fun j hj => ?_, fun j o' hj ho' => ?_⟩
  · rcases a4 j hj with h | ⟨_, x, g1, o', g2, rfl⟩
    · exact h2 j h
    · exact .step i o x o' (h2 i hi) ho g1 g2
  · rcases a6 j hj with h | h
    · exact a2 j (h4 j (by simp [h]))
    · exact h
  · rcases a4 j hj with h | ⟨h, _⟩
    · by_cases hji : j = i
      · subst hji
        rw [ho] at ho'
        cases ho'
        exact .inr a3
      · rcases h5 j o' h ho' with g | g
        · rcases List.mem_append.1 g with g | g
          · exact .inl (a5 j g)
          · simp at g; exact absurd g hji
        · exact .inr fun x hx o2 ho2 => a2 _ (g x hx o2 ho2)
    · exact .inl h
theorem Marked.whole {m : Hp} {R : List Wd} {b : List Bool} (h : Marked m R (b, [])) (j : Nat) : b[j]? = some true ↔ m.Reach R j := by
  refine ⟨h.only j, fun hr => ?_⟩
  induction hr with
  | root x o h1 h2 => exact h.roots x h1 o h2
  | step i o x o' _ h2 h3 h4 ih =>
    rcases h.rest i o ih h2 with g | g
    · cases g
    · exact g x h3 o' h4
end Go.Proofs.YtleppjdmcjocmaaDoor
