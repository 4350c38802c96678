/-
  What strconv's Itoa and Atoi ask of the world, and the contracts of codec.Int and codec.ReadInt. Condition: the library's table of powers and its error lie as the program's text lays them; at most 1000000000 bytes.
-/
import Derived.Test.YtbogmmdmfbcbnaaDoorCodecDec
import Derived.Test.YtbogmmdmfbcbnaaDoorCodecC
import Derived.Lib.AtoiAllCases
import Derived.Lib.LaidTab
set_option maxRecDepth 100000
set_option linter.unusedVariables false
set_option linter.unusedSimpArgs false
set_option linter.unnecessarySimpa false
namespace Go.Proofs.YtbogmmdmfbcbnaaDoor
open Go.RowKit Go.PlainAid

def IntOk (w : World) : Prop := Lib.TabIs Tryd.prog w "internal/strconv.uint64pow10" .u64 Lib.pow10Tab ∧ ∃ tp p, w.var? Tryd.prog "strconv.ErrRange" = some #[.iface tp p]
theorem var_below {w w' : World} {B : Nat} {n : String} {cs : Array Value} (h : w.var? Tryd.prog n = some cs) (hb : Below B w w') (hB : w.heap.size ≤ B) : w'.var? Tryd.prog n = some cs := by
  unfold World.var? at h ⊢
  cases hg : Tryd.prog.globalNamed n with
  | none => rw [hg] at h; cases h
  | some g =>
    rw [hg] at h
    simp only [Option.bind_some] at h ⊢
    have hlt : g < w.heap.size := by
      rcases Nat.lt_or_ge g w.heap.size with k | k
      · exact k
      · rw [Array.getElem?_eq_none k] at h; cases h
    rw [hb.block g (by omega)]
    exact h
theorem IntOk.below {w w' : World} (h : IntOk w) (hb : Below w.heap.size w w') : IntOk w' :=
  ⟨var_below h.1 hb (Nat.le_refl _), by obtain ⟨tp, p, e⟩ := h.2; exact ⟨tp, p, var_below e hb (Nat.le_refl _)⟩⟩

theorem below_grow (w : World) (k : Nat) (os : Array Obj) : Below w.heap.size w (Go.Sort.grow (w.drewN k) os) :=
  ⟨rfl, rfl, rfl, by simp [Go.Sort.grow], fun j hj => by simp [Go.Sort.grow, Array.getElem?_append, hj]⟩
theorem itoa_s (n : Int) (w : World) (h0 : -9223372036854775808 ≤ n) (h1 : n ≤ 9223372036854775807) (ho : IntOk w) :
    Calls Tryd.prog 40 #[.int .i64 n] w fun e w' => e = .returned (.string (ofL (Lib.itoa n))) ∧ Below w.heap.size w w' :=
  (Tryd.strconv_Itoa n h0 h1 w ho.1).mono fun e w' ⟨k1, k, os, k2⟩ => ⟨k1, by rw [k2]; exact below_grow w k os⟩

/-- a parse that ends in a number or out of range -/
def Fair {α : Type} (x : Lib.NumEnd α) : Prop := (∃ v, x = .ok v) ∨ x = .range
theorem parse_digits : ∀ (l : List UInt8) (acc : Nat), l.all digB = true → Fair (Lib.parseUint10 acc l)
  | [], acc, _ => .inl ⟨acc, rfl⟩
  | c :: r, acc, h => by
    rw [List.all_cons, Bool.and_eq_true] at h
    have hc : 48 ≤ c.toNat ∧ c.toNat ≤ 57 := by simpa [digB] using h.1
    unfold Lib.parseUint10
    rw [if_pos hc]
    split
    · exact .inr rfl
    · split
      · exact .inr rfl
      · exact parse_digits r _ h.2
theorem mag_digits {l : List UInt8} (h : digsB l = true) : Fair (Lib.parseMag l) := by
  cases l with
  | nil => cases h
  | cons c r =>
    unfold digsB at h
    rw [Bool.and_eq_true] at h
    unfold Lib.parseMag
    rw [if_neg (by simp)]
    exact parse_digits _ _ h.2
theorem signless_fair {x : Lib.NumEnd Nat} (h : Fair x) : Fair (Lib.signless x) := by
  rcases h with ⟨v, rfl⟩ | rfl
  · unfold Lib.signless; dsimp only; split
    · exact .inr rfl
    · exact .inl ⟨_, rfl⟩
  · exact .inr rfl
theorem signed_fair {x : Lib.NumEnd Nat} (h : Fair x) : Fair (Lib.signed x) := by
  rcases h with ⟨v, rfl⟩ | rfl
  · unfold Lib.signed; dsimp only; split
    · exact .inr rfl
    · exact .inl ⟨_, rfl⟩
  · exact .inr rfl
theorem strip_minus (r : List UInt8) : stripL (45 :: r) = r := by simp [stripL, Lib.trimPrefix, Lib.hasPrefix]
theorem strip_plain (c : UInt8) (r : List UInt8) (h : c ≠ 45) : stripL (c :: r) = c :: r := by
  unfold stripL Lib.trimPrefix Lib.hasPrefix
  rw [if_neg]
  simp only [List.isPrefixOf, Bool.and_eq_true, beq_iff_eq]
  rintro ⟨e, _⟩; exact h e.symm
theorem dec_atoi {l : List UInt8} (h : decB l = true) : Fair (Lib.atoiAll l) := by
  unfold decB at h
  rw [Bool.or_eq_true] at h
  rcases h with h | h
  · have : l = [48] := by simpa using h
    rw [this]; exact .inl ⟨0, by decide⟩
  · cases l with
    | nil => cases h
    | cons c r =>
      by_cases hc : c = 45
      · subst hc
        rw [strip_minus] at h
        rw [Lib.atoiAll_minus]
        exact signed_fair (mag_digits h)
      · rw [strip_plain c r hc] at h
        have hd : digB c = true := by
          unfold digsB at h
          simp only [Bool.and_eq_true, List.all_cons] at h
          exact h.2.1
        have h2 : 48 ≤ c.toNat ∧ c.toNat ≤ 57 := by simpa [digB] using hd
        rw [Lib.atoiAll_plain c r (by omega) (by omega)]
        exact signless_fair (mag_digits h)
/-- what ReadInt returns -/
def readI (l : List UInt8) : Int × Int := if decB l then (match Lib.atoiAll l with
  | .ok v => (v, 0)
  | _ => (0, 27)) else (0, 4)

set_option maxRecDepth 100000 in
theorem cint_s (n : Int) (w : World) (h0 : -9223372036854775808 ≤ n) (h1 : n ≤ 9223372036854775807) (ho : IntOk w) :
    Calls Tryd.prog 22 #[.int .i64 n] w fun e w' => e = .returned (.string (ofL (Lib.itoa n))) ∧ Below w.heap.size w w' := by
  have HO := Lib.hid ho; clear ho
  go_enter Tryd.func22, Tryd.ntmps22
  go_wp2_with (go_at_call 40; refine (itoa_s n _ h0 h1 HO.out).mono ?_; rintro e w1 ⟨rfl, hb1⟩)
  go_ret
  exact ⟨rfl, hb1⟩

end Go.Proofs.YtbogmmdmfbcbnaaDoor
