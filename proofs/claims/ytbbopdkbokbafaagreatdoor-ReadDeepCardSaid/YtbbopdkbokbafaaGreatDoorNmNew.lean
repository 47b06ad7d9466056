/- The contract of New: the fixed symbols. -/
import Derived.Test.YtbbopdkbokbafaaGreatDoorNmCalls2
import Derived.Great.Walk
namespace Go.Proofs.YtbbopdkbokbafaaGreatDoor
open Go.RowKit Go.Lib Go.Shelf
/-- The fixed symbols' names. -/
def fixedN : List ByteArray := [⟨#[110, 105, 108]⟩,
  ⟨#[116]⟩,
  ⟨#[113, 117, 111, 116, 101]⟩,
  ⟨#[102, 117, 110, 99, 116, 105, 111, 110]⟩,
  ⟨#[96]⟩,
  ⟨#[44]⟩,
  ⟨#[44, 64]⟩,
  ⟨#[108, 97, 109, 98, 100, 97]⟩,
  ⟨#[99, 108, 111, 115, 117, 114, 101]⟩,
  ⟨#[109, 97, 99, 114, 111]⟩,
  ⟨#[38, 114, 101, 115, 116]⟩,
  ⟨#[38, 111, 112, 116, 105, 111, 110, 97, 108]⟩,
  ⟨#[105, 102]⟩,
  ⟨#[99, 111, 110, 100]⟩,
  ⟨#[97, 110, 100]⟩,
  ⟨#[111, 114]⟩,
  ⟨#[119, 104, 105, 108, 101]⟩,
  ⟨#[112, 114, 111, 103, 110]⟩,
  ⟨#[112, 114, 111, 103, 49]⟩,
  ⟨#[115, 101, 116, 113]⟩,
  ⟨#[108, 101, 116]⟩,
  ⟨#[108, 101, 116, 42]⟩,
  ⟨#[99, 97, 116, 99, 104]⟩,
  ⟨#[117, 110, 119, 105, 110, 100, 45, 112, 114, 111, 116, 101, 99, 116]⟩,
  ⟨#[99, 111, 110, 100, 105, 116, 105, 111, 110, 45, 99, 97, 115, 101]⟩,
  ⟨#[100, 101, 102, 118, 97, 114]⟩,
  ⟨#[100, 101, 102, 99, 111, 110, 115, 116]⟩,
  ⟨#[100, 101, 102, 117, 110]⟩,
  ⟨#[100, 101, 102, 109, 97, 99, 114, 111]⟩,
  ⟨#[105, 110, 116, 101, 114, 97, 99, 116, 105, 118, 101]⟩,
  ⟨#[102, 117, 110, 99, 97, 108, 108]⟩,
  ⟨#[97, 112, 112, 108, 121]⟩,
  ⟨#[109, 97, 112, 99, 97, 114]⟩,
  ⟨#[109, 97, 112, 99]⟩,
  ⟨#[101, 118, 97, 108]⟩,
  ⟨#[116, 104, 114, 111, 119]⟩,
  ⟨#[115, 105, 103, 110, 97, 108]⟩,
  ⟨#[101, 114, 114, 111, 114]⟩,
  ⟨#[113, 117, 105, 116]⟩,
  ⟨#[118, 111, 105, 100, 45, 118, 97, 114, 105, 97, 98, 108, 101]⟩,
  ⟨#[118, 111, 105, 100, 45, 102, 117, 110, 99, 116, 105, 111, 110]⟩,
  ⟨#[119, 114, 111, 110, 103, 45, 116, 121, 112, 101, 45, 97, 114, 103, 117, 109, 101, 110, 116]⟩,
  ⟨#[119, 114, 111, 110, 103, 45, 110, 117, 109, 98, 101, 114, 45, 111, 102, 45, 97, 114, 103, 117, 109, 101, 110, 116, 115]⟩,
  ⟨#[97, 114, 103, 115, 45, 111, 117, 116, 45, 111, 102, 45, 114, 97, 110, 103, 101]⟩,
  ⟨#[97, 114, 105, 116, 104, 45, 101, 114, 114, 111, 114]⟩,
  ⟨#[111, 118, 101, 114, 102, 108, 111, 119, 45, 101, 114, 114, 111, 114]⟩,
  ⟨#[115, 101, 116, 116, 105, 110, 103, 45, 99, 111, 110, 115, 116, 97, 110, 116]⟩,
  ⟨#[110, 111, 45, 99, 97, 116, 99, 104]⟩,
  ⟨#[105, 110, 118, 97, 108, 105, 100, 45, 102, 117, 110, 99, 116, 105, 111, 110]⟩,
  ⟨#[105, 110, 118, 97, 108, 105, 100, 45, 114, 101, 97, 100, 45, 115, 121, 110, 116, 97, 120]⟩,
  ⟨#[101, 110, 100, 45, 111, 102, 45, 102, 105, 108, 101]⟩,
  ⟨#[99, 105, 114, 99, 117, 108, 97, 114, 45, 108, 105, 115, 116]⟩,
  ⟨#[101, 120, 99, 101, 115, 115, 105, 118, 101, 45, 108, 105, 115, 112, 45, 110, 101, 115, 116, 105, 110, 103]⟩,
  ⟨#[109, 101, 109, 111, 114, 121, 45, 102, 117, 108, 108]⟩,
  ⟨#[116, 101, 120, 116, 45, 114, 101, 97, 100, 45, 111, 110, 108, 121]⟩,
  ⟨#[98, 101, 103, 105, 110, 110, 105, 110, 103, 45, 111, 102, 45, 98, 117, 102, 102, 101, 114]⟩,
  ⟨#[101, 110, 100, 45, 111, 102, 45, 98, 117, 102, 102, 101, 114]⟩,
  ⟨#[115, 101, 97, 114, 99, 104, 45, 102, 97, 105, 108, 101, 100]⟩,
  ⟨#[105, 110, 118, 97, 108, 105, 100, 45, 114, 101, 103, 101, 120, 112]⟩,
  ⟨#[117, 115, 101, 114, 45, 101, 114, 114, 111, 114]⟩,
  ⟨#[98, 117, 102, 102, 101, 114, 45, 114, 101, 97, 100, 45, 111, 110, 108, 121]⟩,
  ⟨#[99, 121, 99, 108, 105, 99, 45, 102, 117, 110, 99, 116, 105, 111, 110, 45, 105, 110, 100, 105, 114, 101, 99, 116, 105, 111, 110]⟩]
def Tb.addAll (m : Tb) (l : List ByteArray) : Tb := l.foldl (fun m s => m.add (fy s true)) m
theorem Tb.addAll_snoc (m : Tb) (l : List ByteArray) (s : ByteArray) : m.addAll (l ++ [s]) = (m.addAll l).add (fy s true) := by simp [Tb.addAll]
def tb0 : Tb := ⟨[], .map []⟩
theorem addAll_syms (l : List ByteArray) : (tb0.addAll l).syms = l.map fun s => fy s true := by
  have : ∀ (l : List ByteArray) (m : Tb), (m.addAll l).syms = m.syms ++ l.map fun s => fy s true := by
    intro l
    induction l with
    | nil => intro m; simp [Tb.addAll]
    | cons s l ih =>
      intro m
      have := ih (m.add (fy s true))
      simp only [Tb.addAll, List.foldl_cons] at this ⊢
      rw [this]
      simp [Tb.add]
  simpa [tb0] using this l tb0
theorem fixed_length : fixedN.length = 62 := rfl
theorem fixed_new (k : Nat) (s : ByteArray) (h : fixedN[k]? = some s) : (tb0.addAll (fixedN.take k)).find s = none := by
  have hk : k < 62 := by have := (List.getElem?_eq_some_iff.1 h).1; rwa [fixed_length] at this
  have hall : ∀ k : Fin 62, ∀ j : Fin 62, j.1 < k.1 → ((fixedN.map fun s => s.data.toList)[j.1]? != (fixedN.map fun s => s.data.toList)[k.1]?) = true := by decide +kernel
  unfold Tb.find
  rw [addAll_syms, List.findIdx?_eq_none_iff]
  intro y hy
  obtain ⟨s', hs', rfl⟩ := List.mem_map.1 hy
  obtain ⟨j, hj⟩ := List.mem_iff_getElem?.1 hs'
  have hjl := (List.getElem?_eq_some_iff.1 hj).1
  simp only [List.length_take] at hjl
  rw [List.getElem?_take_of_lt (by omega)] at hj
  have h2 := hall ⟨k, hk⟩ ⟨j, by omega⟩ (by show j < k; omega)
  simp only [List.getElem?_map, hj, h, Option.map_some] at h2
  simp only [Bool.true_and, decide_eq_false_iff_not]
  intro e
  rw [e] at h2
  simp at h2
theorem fixed_size (s : ByteArray) (h : s ∈ fixedN) : s.size ≤ 281474976710656 := by
  have : (fixedN.all fun s => decide (s.size ≤ 281474976710656)) = true := by decide +kernel
  simpa using List.all_eq_true.1 this s h
theorem WentT.trans {w w1 w2 : World} {tb : Nat} {G G1 : Nat → Nat} {m2 : Tb} (hk : Keeps G w w1) (hg : ∀ k, k < w.heap.size → (G1 k = 0 ↔ G k = 0)) (h : WentT w1 w2 tb G1 m2) : WentT w w2 tb G m2 := by
  obtain ⟨hk2, G2, h1, h2⟩ := h
  exact ⟨hk.trans hk2 (fun k hk3 e => (hg k hk3).2 e), G2, h1, fun k hk3 => (h2 k (Nat.lt_of_lt_of_le hk3 hk.size)).trans (hg k hk3)⟩
set_option maxHeartbeats 1000000 in
theorem addAll_any {w : World} {tb g c : Nat} {G : Nat → Nat} {m : Tb} (h : TableAt w tb G m) (l : List ByteArray) (hg : G g = 0) (hgl : g < w.heap.size) (hc : ∀ j s, l[j]? = some s → w.cell? ⟨g, j, none⟩ = some (.string s))
    (hs : ∀ s ∈ l, s.size ≤ 281474976710656) (hl : m.syms.length + l.length ≤ 16384) (hn : ∀ k s, l[k]? = some s → (m.addAll (l.take k)).find s = none) (hlen : ∀ k, k ≤ l.length → (m.addAll (l.take k)).syms.length = m.syms.length + k) :
    Calls Tryz.prog 156 #[hptr tb, .slice (some ⟨g, 0, none⟩) l.length c] w fun e w' => e = .returned (.tuple #[]) ∧ WentT w w' tb G (m.addAll l) := by
  have h0 : WentT w w tb G (m.addAll (l.take 0)) := .of_below h (Below.refl _ _)
  have H0 := Lib.hid h0
  have hlb : l.length ≤ 16384 := by omega
  have H := Lib.hid (And.intro hg (And.intro hgl (And.intro hc (And.intro hs (And.intro hl (And.intro hn hlen))))))
  clear h h0 hg hgl hc hs hl hn hlen
  go_enter Tryz.func156, Tryz.ntmps156
  go_wp2
  go_loopw [8] (fun i wr => ∃ k : Nat, i = .int .i64 k ∧ k ≤ l.length ∧ Hid (WentT w wr tb G (m.addAll (l.take k)))) (fun i _ => l.length - (RowKit.intOf i).toNat)
  case atStart => exact ⟨0, rfl, Nat.zero_le _, H0⟩
  case round =>
    obtain ⟨k, rfl, hk, HW⟩ := hrel
    by_cases hlt : (k : Int) < (l.length : Int)
    · obtain ⟨s, hsk⟩ : ∃ s, l[k]? = some s := ⟨l[k]'(by omega), List.getElem?_eq_getElem _⟩
      obtain ⟨hgz, hgl, hc, hs, hl, hn, hlen⟩ := H.out
      have q0 : wr.cell? ⟨g, k, none⟩ = some (.string s) := (World.cell?_of_block (HW.out.keeps.block g hgl hgz)).trans (hc k s hsk)
      have hkk : WentT w wr tb G (m.addAll (l.take k)) := HW.out
      obtain ⟨hkeep, G1, ht, hz⟩ := hkk
      have hlk := hlen k hk
      have e1 : l.take (k + 1) = l.take k ++ [s] := by rw [List.take_add_one, hsk]; rfl
      have CA := Lib.hid (addI_any ht s (hs s (List.mem_iff_getElem?.2 ⟨k, hsk⟩)) (by omega) (hn k s hsk))
      have HZ := Lib.hid (And.intro hkeep (And.intro hz e1))
      clear hgz hgl hc hs hl hn hlen hkeep ht hz hlk e1
      go_wp2_with fail
      refine CA.out.mono ?_
      rintro e W ⟨rfl, hw⟩
      have hw2 : WentT w W tb G (m.addAll (l.take (k + 1))) := by
        rw [HZ.out.2.2, Tb.addAll_snoc]
        exact WentT.trans HZ.out.1 HZ.out.2.1 hw
      have HW2 := Lib.hid hw2
      clear hw hw2 CA HZ q0
      go_wp2
      go_roundw
      case rel => exact ⟨k + 1, by go_num, by omega, HW2⟩
      case measure => simp [RowKit.intOf]; omega
    · have hkn : k = l.length := by omega
      subst hkn
      have hw : WentT w wr tb G (m.addAll l) := by have := HW.out; rwa [List.take_length] at this
      have HW2 := Lib.hid hw
      clear hw
      go_wp2
      go_end0
      exact ⟨rfl, HW2.out⟩
end Go.Proofs.YtbbopdkbokbafaaGreatDoor
