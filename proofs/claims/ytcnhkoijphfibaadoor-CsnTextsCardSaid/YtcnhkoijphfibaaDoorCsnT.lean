/-
  Plain functions for the text form of change sequence numbers: writing, reading, that both are inverse to each other, and that the order of the forms is that of the numbers. Nothing of the program stands here. No condition.
-/
import Derived.Test.YtcnhkoijphfibaaDoorCsnL
import Derived.Lib.IndexMore
set_option linter.unusedVariables false
set_option linter.unusedSimpArgs false
set_option linter.unnecessarySimpa false
namespace Go.Proofs.YtcnhkoijphfibaaDoor
open Go.PlainAid

def fmtL (c : Cn) : List UInt8 := hexK 11 c.1.toNat ++ 45 :: (hexK 8 c.2.1.toNat ++ 45 :: hexK 1 c.2.2.toNat)
def fmtS (c : Cn) : ByteArray := if Vld c then ⟨(fmtL c).toArray⟩ else ⟨#[]⟩
theorem fmtL_len (c : Cn) : (fmtL c).length = 22 := by
  unfold fmtL
  rw [List.length_append, List.length_cons, List.length_append, List.length_cons, hexK_length, hexK_length, hexK_length]
def parR (l : List UInt8) : Option Cn := if l.length = 22 ∧ l[11]? = some 45 ∧ l[20]? = some 45 then (rdA 0 (l.take 11)).bind fun a => (rdA 0 ((l.drop 12).take 8)).bind fun s => (rdA 0 (l.drop 21)).map fun r => ((a : Int), (s : Int), (r : Int)) else none
/-- the error, and the number, that Parse returns -/
def parEC (l : List UInt8) : Int := match parR l with
  | none => 4
  | some c => if Vld c then 0 else 27
def parVC (l : List UInt8) : Cn := match parR l with
  | none => (0, 0, 0)
  | some c => if Vld c then c else (0, 0, 0)
/-- three words of hexadecimal digits -/
def IsFm (l : List UInt8) (c : Cn) : Prop := ∃ (x y z : List UInt8) (a s r : Nat), l = x ++ 45 :: (y ++ 45 :: z) ∧ x.length = 11 ∧ y.length = 8 ∧ z.length = 1 ∧ rdA 0 x = some a ∧ rdA 0 y = some s ∧ rdA 0 z = some r ∧ c = ((a : Int), (s : Int), (r : Int))
theorem three_parts {α : Type} (x y z : List α) (b : α) (hx : x.length = 11) (hy : y.length = 8) (hz : z.length = 1) :
    (x ++ b :: (y ++ b :: z)).length = 22 ∧ (x ++ b :: (y ++ b :: z))[11]? = some b ∧ (x ++ b :: (y ++ b :: z))[20]? = some b ∧ (x ++ b :: (y ++ b :: z)).take 11 = x ∧ ((x ++ b :: (y ++ b :: z)).drop 12).take 8 = y ∧ (x ++ b :: (y ++ b :: z)).drop 21 = z := by
  have e12 : (x ++ b :: (y ++ b :: z)).drop 12 = y ++ b :: z := by
    rw [show 12 = x.length + 1 by omega, ← List.drop_drop, List.drop_left]; rfl
  refine ⟨by simp [hx, hy, hz], ?_, ?_, ?_, ?_, ?_⟩
  · rw [List.getElem?_append_right (by omega), hx]; rfl
  · rw [List.getElem?_append_right (by omega), hx, show 20 - 11 = 8 + 1 by rfl, List.getElem?_cons_succ, List.getElem?_append_right (by omega), hy]; rfl
  · rw [← hx, List.take_left]
  · rw [e12, ← hy, List.take_left]
  · rw [show 21 = 12 + (8 + 1) by rfl, ← List.drop_drop, e12, ← hy, ← List.drop_drop, List.drop_left]; rfl
theorem par_iff {l : List UInt8} {c : Cn} : parR l = some c ↔ IsFm l c := by
  unfold parR
  constructor
  · intro h
    split at h
    · rename_i hc
      obtain ⟨h0, h1, h2⟩ := hc
      cases ha : rdA 0 (l.take 11) with
      | none => rw [ha] at h; cases h
      | some a =>
        cases hs : rdA 0 ((l.drop 12).take 8) with
        | none => rw [ha, hs] at h; cases h
        | some s =>
          cases hr : rdA 0 (l.drop 21) with
          | none => rw [ha, hs, hr] at h; cases h
          | some r =>
            rw [ha, hs, hr] at h
            have h : ((a : Int), (s : Int), (r : Int)) = c := Option.some.inj h
            refine ⟨l.take 11, (l.drop 12).take 8, l.drop 21, a, s, r, ?_, by rw [List.length_take]; omega, by rw [List.length_take, List.length_drop]; omega, by rw [List.length_drop]; omega, ha, hs, hr, h.symm⟩
            have e1 : l.drop 11 = 45 :: l.drop 12 := by
              have := List.getElem_cons_drop (as := l) (i := 11) (by omega)
              rw [← this]
              congr 1
              rw [List.getElem?_eq_getElem (by omega)] at h1
              exact Option.some.inj h1
            have e2 : l.drop 20 = 45 :: l.drop 21 := by
              have := List.getElem_cons_drop (as := l) (i := 20) (by omega)
              rw [← this]
              congr 1
              rw [List.getElem?_eq_getElem (by omega)] at h2
              exact Option.some.inj h2
            have e3 : l.drop 12 = (l.drop 12).take 8 ++ l.drop 20 := by
              have := List.take_append_drop 8 (l.drop 12)
              rw [List.drop_drop] at this
              exact this.symm
            rw [← e2, ← e3, ← e1, List.take_append_drop]
    · cases h
  · rintro ⟨x, y, z, a, s, r, rfl, hx, hy, hz, ha, hs, hr, rfl⟩
    obtain ⟨k0, k1, k2, k3, k4, k5⟩ := three_parts x y z 45 hx hy hz
    rw [if_pos ⟨k0, k1, k2⟩, k3, k4, k5, ha, hs, hr]
    rfl
theorem par_fmt {c : Cn} (h : Vld c) : parR (fmtL c) = some c := by
  obtain ⟨t, s, r⟩ := c
  unfold Vld at h
  dsimp only at h
  rw [par_iff]
  refine ⟨hexK 11 t.toNat, hexK 8 s.toNat, hexK 1 r.toNat, t.toNat, s.toNat, r.toNat, rfl, hexK_length _ _, hexK_length _ _, hexK_length _ _, rdA_hexK _ _ ?_, rdA_hexK _ _ ?_, rdA_hexK _ _ ?_, cn_ext ?_ ?_ ?_⟩
  · have : (16 : Nat) ^ 11 = 17592186044416 := by decide
    omega
  · have : (16 : Nat) ^ 8 = 4294967296 := by decide
    omega
  · have : (16 : Nat) ^ 1 = 16 := by decide
    omega
  all_goals dsimp only; omega
theorem fmt_par {l : List UInt8} {c : Cn} (h : parR l = some c) : fmtL c = l := by
  obtain ⟨x, y, z, a, s, r, rfl, hx, hy, hz, ha, hs, hr, rfl⟩ := par_iff.1 h
  unfold fmtL
  dsimp only
  rw [Int.toNat_natCast, Int.toNat_natCast, Int.toNat_natCast, (hexK_rdA _ _ _ hx ha).1, (hexK_rdA _ _ _ hy hs).1, (hexK_rdA _ _ _ hz hr).1]
theorem parEC_fmt {c : Cn} (h : Vld c) : parEC (fmtL c) = 0 ∧ parVC (fmtL c) = c := by
  unfold parEC parVC
  rw [par_fmt h]
  simp only [if_pos h, and_self]
theorem parEC_ok {l : List UInt8} (h : parEC l = 0) : Vld (parVC l) ∧ fmtL (parVC l) = l := by
  unfold parEC at h
  unfold parVC
  cases e : parR l with
  | none => rw [e] at h; cases h
  | some c =>
    rw [e] at h
    simp only at h ⊢
    split at h
    · rename_i k
      rw [if_pos k]
      exact ⟨k, fmt_par e⟩
    · cases h

/-! ### cutting at a byte -/
theorem idx_mk : ∀ (x y : List UInt8) (b : UInt8), b ∉ x → Lib.index (x ++ b :: y) [b] = (x.length : Int)
  | [], y, b, _ => by
    show Lib.index (b :: y) [b] = 0
    unfold Lib.index
    rw [if_pos (by simp)]
  | a :: x, y, b, h => by
    have h1 : b ≠ a := fun e => h (by simp [e])
    have h2 : b ∉ x := fun e => h (by simp [e])
    show Lib.index (a :: (x ++ b :: y)) [b] = _
    unfold Lib.index
    rw [if_neg (by simp [h1]), idx_mk x y b h2]
    have : ((x.length : Int) == -1) = false := by rw [beq_eq_false_iff_ne]; omega
    simp [this]
theorem idx_no : ∀ (l : List UInt8) (b : UInt8), b ∉ l → Lib.index l [b] = -1
  | [], b, _ => rfl
  | a :: x, b, h => by
    have h1 : b ≠ a := fun e => h (by simp [e])
    have h2 : b ∉ x := fun e => h (by simp [e])
    unfold Lib.index
    rw [if_neg (by simp [h1]), idx_no x b h2]
    rfl
theorem split_at (l : List UInt8) (b : UInt8) : b ∈ l → ∃ x y, l = x ++ b :: y ∧ b ∉ x := by
  induction l with
  | nil => intro h; cases h
  | cons a l ih =>
    intro h
    by_cases e : b = a
    · exact ⟨[], l, by rw [e]; rfl, by simp⟩
    · obtain ⟨x, y, h1, h2⟩ := ih ((List.mem_cons.1 h).resolve_left e)
      exact ⟨a :: x, y, by rw [h1]; rfl, fun k => (List.mem_cons.1 k).elim e h2⟩
theorem cutl_mk (x y : List UInt8) (b : UInt8) (h : b ∉ x) : Lib.cut (x ++ b :: y) [b] = (x, y, true) := by
  unfold Lib.cut
  rw [idx_mk x y b h, if_pos (by omega), Int.toNat_natCast, List.take_left]
  have : (x ++ b :: y).drop (x.length + [b].length) = y := by
    rw [show x.length + [b].length = x.length + 1 by rfl, ← List.drop_drop, List.drop_left]; rfl
  rw [this]
theorem cutl_no (l : List UInt8) (b : UInt8) (h : b ∉ l) : Lib.cut l [b] = (l, [], false) := by
  unfold Lib.cut
  rw [idx_no l b h, if_neg (by decide)]
theorem rdA_no45 : ∀ (l : List UInt8) (acc n : Nat), rdA acc l = some n → (45 : UInt8) ∉ l
  | [], _, _, _ => by simp
  | c :: l, acc, n, h => by
    unfold rdA at h
    intro k
    rcases List.mem_cons.1 k with k | k
    · subst k
      have : hexO 45 = none := by decide
      rw [this] at h; cases h
    · cases hc : hexO c with
      | none => rw [hc] at h; cases h
      | some d => rw [hc] at h; exact rdA_no45 l _ _ h k
/-- a word of k hexadecimal digits -/
def wrdC (k : Nat) (l : List UInt8) : Option Nat := if l.length = k then rdA 0 l else none
def bfC (l : List UInt8) : List UInt8 := (Lib.cut l [45]).1
def afC (l : List UInt8) : List UInt8 := (Lib.cut l [45]).2.1
/-- the program's way of reading: two cuts -/
theorem par_cut (l : List UInt8) : parR l = (wrdC 11 (bfC l)).bind fun a => (wrdC 8 (bfC (afC l))).bind fun s => (wrdC 1 (afC (afC l))).map fun r => ((a : Int), (s : Int), (r : Int)) := by
  apply Option.ext
  intro c
  rw [par_iff]
  constructor
  · rintro ⟨x, y, z, a, s, r, rfl, hx, hy, hz, ha, hs, hr, rfl⟩
    have k1 := cutl_mk x (y ++ 45 :: z) 45 (rdA_no45 _ _ _ ha)
    have k2 := cutl_mk y z 45 (rdA_no45 _ _ _ hs)
    unfold bfC afC wrdC
    rw [k1]
    dsimp only
    rw [k2]
    dsimp only
    rw [if_pos hx, if_pos hy, if_pos hz, ha, hs, hr]
    rfl
  · intro h
    unfold wrdC at h
    by_cases m1 : (45 : UInt8) ∈ l
    · obtain ⟨x, l2, rfl, hx⟩ := split_at l 45 m1
      have k1 := cutl_mk x l2 45 hx
      have b1 : bfC (x ++ 45 :: l2) = x := congrArg Prod.fst k1
      have a1 : afC (x ++ 45 :: l2) = l2 := congrArg (fun p => p.2.1) k1
      rw [b1, a1] at h
      by_cases m2 : (45 : UInt8) ∈ l2
      · obtain ⟨y, z, rfl, hy⟩ := split_at l2 45 m2
        have k2 := cutl_mk y z 45 hy
        have b2 : bfC (y ++ 45 :: z) = y := congrArg Prod.fst k2
        have a2 : afC (y ++ 45 :: z) = z := congrArg (fun p => p.2.1) k2
        rw [b2, a2] at h
        by_cases e1 : x.length = 11
        · by_cases e2 : y.length = 8
          · by_cases e3 : z.length = 1
            · rw [if_pos e1, if_pos e2, if_pos e3] at h
              cases ha : rdA 0 x with
              | none => rw [ha] at h; cases h
              | some a =>
                cases hs : rdA 0 y with
                | none => rw [ha, hs] at h; cases h
                | some s =>
                  cases hr : rdA 0 z with
                  | none => rw [ha, hs, hr] at h; cases h
                  | some r =>
                    rw [ha, hs, hr] at h
                    exact ⟨x, y, z, a, s, r, rfl, e1, e2, e3, ha, hs, hr, (Option.some.inj h).symm⟩
            · rw [if_neg e3] at h
              cases ha : (if x.length = 11 then rdA 0 x else none) <;> rw [ha] at h
              · cases h
              · cases hs : (if y.length = 8 then rdA 0 y else none) <;> rw [hs] at h <;> cases h
          · rw [if_neg e2] at h
            cases ha : (if x.length = 11 then rdA 0 x else none) <;> rw [ha] at h <;> cases h
        · rw [if_neg e1] at h; cases h
      · have k2 := cutl_no l2 45 m2
        have a2 : afC l2 = [] := congrArg (fun p => p.2.1) k2
        rw [a2, if_neg (show ¬ ([] : List UInt8).length = 1 by decide)] at h
        cases ha : (if x.length = 11 then rdA 0 x else none) <;> rw [ha] at h
        · cases h
        · cases hs : (if (bfC l2).length = 8 then rdA 0 (bfC l2) else none) <;> rw [hs] at h <;> cases h
    · have k1 := cutl_no l 45 m1
      have a1 : afC l = [] := congrArg (fun p => p.2.1) k1
      rw [a1, if_neg (show ¬ (afC []).length = 1 by decide)] at h
      cases ha : (if (bfC l).length = 11 then rdA 0 (bfC l) else none) <;> rw [ha] at h
      · cases h
      · cases hs : (if (bfC []).length = 8 then rdA 0 (bfC []) else none) <;> rw [hs] at h <;> cases h

/-! ### the order of the forms -/
theorem blc_self : ∀ l : List UInt8, Op.bytesLess l l = false
  | [] => rfl
  | c :: l => by
    show (decide (c < c) || (c == c && Op.bytesLess l l)) = false
    rw [blc_self l]
    simp
theorem blc_same : ∀ (a c d : List UInt8), Op.bytesLess (a ++ c) (a ++ d) = Op.bytesLess c d
  | [], c, d => rfl
  | x :: a, c, d => by
    show (decide (x < x) || (x == x && Op.bytesLess (a ++ c) (a ++ d))) = _
    rw [blc_same a c d]
    simp
theorem blc_cons (x : UInt8) (c d : List UInt8) : Op.bytesLess (x :: c) (x :: d) = Op.bytesLess c d := blc_same [x] c d
theorem blc_app : ∀ (a b c d : List UInt8), a.length = b.length → Op.bytesLess a b = true → Op.bytesLess (a ++ c) (b ++ d) = true
  | [], [], c, d, _, h => by cases h
  | x :: a, y :: b, c, d, hl, h => by
    show (decide (x < y) || (x == y && Op.bytesLess (a ++ c) (b ++ d))) = true
    have h2 : (decide (x < y) || (x == y && Op.bytesLess a b)) = true := h
    rw [Bool.or_eq_true, Bool.and_eq_true] at h2 ⊢
    rcases h2 with h2 | ⟨h2, h3⟩
    · exact .inl h2
    · exact .inr ⟨h2, blc_app a b c d (by simpa using hl) h3⟩
theorem blc_asymm : ∀ (a b : List UInt8), Op.bytesLess a b = true → Op.bytesLess b a = false
  | _, [], h => by
    rename_i a
    cases a <;> cases h
  | [], y :: b, _ => rfl
  | x :: a, y :: b, h => by
    have h2 : (decide (x < y) || (x == y && Op.bytesLess a b)) = true := h
    show (decide (y < x) || (y == x && Op.bytesLess b a)) = false
    rw [Bool.or_eq_true, Bool.and_eq_true, decide_eq_true_iff, beq_iff_eq] at h2
    rw [Bool.or_eq_false_iff, Bool.and_eq_false_iff, decide_eq_false_iff_not]
    rcases h2 with h2 | ⟨h2, h3⟩
    · refine ⟨?_, .inl ?_⟩
      · intro h4; rw [UInt8.lt_iff_toNat_lt] at h2 h4; omega
      · rw [beq_eq_false_iff_ne]; intro h4; rw [UInt8.lt_iff_toNat_lt, h4] at h2; omega
    · subst h2
      exact ⟨by intro h4; rw [UInt8.lt_iff_toNat_lt] at h4; omega, .inr (blc_asymm a b h3)⟩
theorem blc_dig (a b : Nat) (h : a < b) (hb : b < 16) : Op.bytesLess [hexD a] [hexD b] = true := by
  have : ∀ b : Nat, b < 16 → ∀ a : Nat, a < b → Op.bytesLess [hexD a] [hexD b] = true := by decide +kernel
  exact this b hb a h
theorem hex_less : ∀ (k n m : Nat), n < m → m < 16 ^ k → Op.bytesLess (hexK k n) (hexK k m) = true
  | 0, n, m, h, hm => by simp at hm; omega
  | k + 1, n, m, h, hm => by
    have hm16 : m / 16 < 16 ^ k := by rw [Nat.pow_succ] at hm; omega
    rw [hexK, hexK]
    by_cases hd : n / 16 = m / 16
    · rw [hd, blc_same]
      exact blc_dig _ _ (by omega) (by omega)
    · exact blc_app _ _ _ _ (by rw [hexK_length, hexK_length]) (hex_less k _ _ (by omega) hm16)
theorem fmt_less {a b : Cn} (ha : Vld a) (hb : Vld b) (h : ltC a b) : Op.bytesLess (fmtL a) (fmtL b) = true := by
  obtain ⟨t, s, r⟩ := a
  obtain ⟨u, v, q⟩ := b
  unfold Vld at ha hb
  unfold ltC at h
  unfold fmtL
  dsimp only at ha hb h ⊢
  have p11 : (16 : Nat) ^ 11 = 17592186044416 := by decide
  have p8 : (16 : Nat) ^ 8 = 4294967296 := by decide
  have p1 : (16 : Nat) ^ 1 = 16 := by decide
  by_cases e1 : t = u
  · subst e1
    rw [blc_same, blc_cons]
    by_cases e2 : s = v
    · subst e2
      rw [blc_same, blc_cons]
      exact hex_less 1 _ _ (by omega) (by omega)
    · exact blc_app _ _ _ _ (by rw [hexK_length, hexK_length]) (hex_less 8 _ _ (by omega) (by omega))
  · exact blc_app _ _ _ _ (by rw [hexK_length, hexK_length]) (hex_less 11 _ _ (by omega) (by omega))

end Go.Proofs.YtcnhkoijphfibaaDoor
