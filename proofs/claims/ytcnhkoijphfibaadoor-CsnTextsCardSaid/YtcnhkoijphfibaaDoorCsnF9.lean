/-
  Contract of csn.Parse. Condition: strings of at most 1000000 bytes; the package's word as the card says.
-/
import Derived.Test.YtcnhkoijphfibaaDoorCsnF8
import Derived.Test.YtcnhkoijphfibaaDoorBaseE
set_option maxRecDepth 100000
set_option linter.unusedVariables false
set_option linter.unusedSimpArgs false
set_option linter.unnecessarySimpa false
namespace Go.Proofs.YtcnhkoijphfibaaDoor
open Go.RowKit Go.PlainAid

def bfS (s : ByteArray) : ByteArray := ⟨(bfC s.data.toList).toArray⟩
def afS (s : ByteArray) : ByteArray := ⟨(afC s.data.toList).toArray⟩
theorem cutl_len (l : List UInt8) : (bfC l).length ≤ l.length ∧ (afC l).length ≤ l.length := by
  unfold bfC afC Lib.cut
  split
  · dsimp only
    rw [List.length_take, List.length_drop]; omega
  · exact ⟨Nat.le_refl _, Nat.zero_le _⟩
theorem bfS_size (s : ByteArray) : (bfS s).size ≤ s.size := by
  unfold bfS
  rw [Lib.size_mk, Lib.size_eq s]; exact (cutl_len _).1
theorem afS_size (s : ByteArray) : (afS s).size ≤ s.size := by
  unfold afS
  rw [Lib.size_mk, Lib.size_eq s]; exact (cutl_len _).2
theorem cut45_s (s x y : ByteArray) (w : World) (hs : s.size ≤ 1000000000) (hm : MaxOk w) (hx : bfS s = x) (hy : afS s = y) :
    Calls Tryd.prog 41 #[.string s, .string ⟨#[45]⟩] w fun e w' => ∃ b, e = .returned (.tuple #[.string x, .string y, .bool b]) ∧ ∃ n, w' = w.drewN n := by
  obtain ⟨m, hm⟩ := hm
  subst hx; subst hy
  exact (Tryd.strings_Cut s ⟨#[45]⟩ m w (by omega) hm).mono fun e w' h => ⟨_, h.1, h.2⟩
theorem par_prog (s : ByteArray) :
    (rdgB 11 (bfS s) = true ∧ rdgB 8 (bfS (afS s)) = true ∧ rdgB 1 (afS (afS s)) = true ∧ parR s.data.toList = some (rdgV 11 (bfS s), rdgV 8 (bfS (afS s)), rdgV 1 (afS (afS s))))
    ∨ (¬ (rdgB 11 (bfS s) = true ∧ rdgB 8 (bfS (afS s)) = true ∧ rdgB 1 (afS (afS s)) = true) ∧ parR s.data.toList = none) := by
  have e := par_cut s.data.toList
  unfold rdgB rdgV
  show (_ ∧ _ ∧ _ ∧ _) ∨ _
  have e1 : (bfS s).data.toList = bfC s.data.toList := rfl
  have e2 : (bfS (afS s)).data.toList = bfC (afC s.data.toList) := rfl
  have e3 : (afS (afS s)).data.toList = afC (afC s.data.toList) := rfl
  rw [e1, e2, e3]
  rw [e]
  cases wrdC 11 (bfC s.data.toList) with
  | none => exact .inr ⟨fun h => (by cases h.1), rfl⟩
  | some a =>
    cases wrdC 8 (bfC (afC s.data.toList)) with
    | none => exact .inr ⟨fun h => (by cases h.2.1), rfl⟩
    | some b =>
      cases wrdC 1 (afC (afC s.data.toList)) with
      | none => exact .inr ⟨fun h => (by cases h.2.2), rfl⟩
      | some c => exact .inl ⟨rfl, rfl, rfl, rfl⟩
theorem par_none {l : List UInt8} (h : parR l = none) : parEC l = 4 ∧ parVC l = (0, 0, 0) := by unfold parEC parVC; rw [h]; exact ⟨rfl, rfl⟩
theorem par_bad {l : List UInt8} {c : Cn} (h : parR l = some c) (k : ¬ Vld c) : parEC l = 27 ∧ parVC l = (0, 0, 0) := by
  unfold parEC parVC; rw [h]; simp only [if_neg k, and_self]
theorem par_good {l : List UInt8} {c : Cn} (h : parR l = some c) (k : Vld c) : parEC l = 0 ∧ parVC l = c := by
  unfold parEC parVC; rw [h]; simp only [if_pos k, and_self]
theorem below_drawsN {B : Nat} {w w' : World} (h : Below B w w') (n : Nat) : Below B w (w'.drewN n) := h.trans ⟨rfl, rfl, rfl, Nat.le_refl _, fun _ _ => rfl⟩
theorem below_set3 {B : Nat} {w X : World} (h : Below B w X) (hB : B ≤ X.heap.size) {b : Nat} (hb : B ≤ b) (v0 v1 v2 : Value) :
    Below B w (((X.setCell ⟨b, 0, none⟩ v0).setCell ⟨b, 1, none⟩ v1).setCell ⟨b, 2, none⟩ v2) ∧ B ≤ (((X.setCell ⟨b, 0, none⟩ v0).setCell ⟨b, 1, none⟩ v1).setCell ⟨b, 2, none⟩ v2).heap.size :=
  ⟨((h.setCell (p := ⟨b, 0, none⟩) hb _).setCell (p := ⟨b, 1, none⟩) hb _).setCell (p := ⟨b, 2, none⟩) hb _, by simp; exact hB⟩
theorem below_al2 {B : Nat} {w X : World} (h : Below B w X ∧ B ≤ X.heap.size) (o p : Obj) : Below B w ((X.alloc o).alloc p) := below_allocs [o, p] _ _ _ h.1 h.2
theorem readDig_k (s : ByteArray) (k : Nat) (kv v : Int) (b : Bool) (w : World) (hs : s.size ≤ 1000000000) (hk : k ≤ 15) (hkv : kv = (k : Int)) (hv : rdgV k s = v) (hb : rdgB k s = b) :
    Calls Tryd.prog 42 #[.string s, .int .i64 kv] w fun e w' => e = .returned (.tuple #[.int .i64 v, .bool b]) ∧ w = w' := by subst hkv; subst hv; subst hb; exact readDig_s s k w hs hk
set_option maxHeartbeats 8000000 in
theorem parse_s (s : ByteArray) (w : World) (hs : s.size ≤ 1000000) (ho : MaxOk w) :
    Calls Tryd.prog 16 #[.string s] w fun e w' => e = .returned (.tuple #[cnV (parVC s.data.toList), .int .i64 (parEC s.data.toList)]) ∧ Below w.heap.size w w' := by
  have HP := Lib.hid (par_prog s)
  have z1 := bfS_size s
  have z2 := afS_size s
  have z3 := bfS_size (afS s)
  have z4 := afS_size (afS s)
  obtain ⟨x, hx⟩ : ∃ x, bfS s = x := ⟨_, rfl⟩
  obtain ⟨y, hy⟩ : ∃ x, afS s = x := ⟨_, rfl⟩
  have HC1 := Lib.hid (fun W h => cut45_s s x y W (by omega) h hx hy)
  rw [hx, hy] at HP
  rw [hx] at z1
  rw [hy] at z2 z3 z4
  clear hx hy
  obtain ⟨u, hu⟩ : ∃ x, bfS y = x := ⟨_, rfl⟩
  obtain ⟨v, hv⟩ : ∃ x, afS y = x := ⟨_, rfl⟩
  have HC2 := Lib.hid (fun W h => cut45_s y u v W (by omega) h hu hv)
  rw [hu, hv] at HP
  rw [hu] at z3
  rw [hv] at z4
  clear hu hv
  obtain ⟨c1, hc1⟩ : ∃ q, rdgV 11 x = q := ⟨_, rfl⟩
  obtain ⟨c2, hc2⟩ : ∃ q, rdgV 8 u = q := ⟨_, rfl⟩
  obtain ⟨c3, hc3⟩ : ∃ q, rdgV 1 v = q := ⟨_, rfl⟩
  obtain ⟨k1, hk1⟩ : ∃ q, rdgB 11 x = q := ⟨_, rfl⟩
  obtain ⟨k2, hk2⟩ : ∃ q, rdgB 8 u = q := ⟨_, rfl⟩
  obtain ⟨k3, hk3⟩ : ∃ q, rdgB 1 v = q := ⟨_, rfl⟩
  rw [hc1, hc2, hc3, hk1, hk2, hk3] at HP
  have HR1 := Lib.hid (fun W => readDig_k x 11 11 c1 k1 W (by omega) (by omega) rfl hc1 hk1)
  have HR2 := Lib.hid (fun W => readDig_k u 8 8 c2 k2 W (by omega) (by omega) rfl hc2 hk2)
  have HR3 := Lib.hid (fun W => readDig_k v 1 1 c3 k3 W (by omega) (by omega) rfl hc3 hk3)
  clear hc1 hc2 hc3 hk1 hk2 hk3 z1 z2 z3 z4
  have HO := Lib.hid ho
  clear ho
  go_enter Tryd.func16, Tryd.ntmps16
  go_wp2_with fail
  refine (HC1.out _ (HO.out.below (box_below _ _) HO.out.lt)).mono ?_
  rintro e w1 ⟨b1, rfl, n1, rfl⟩
  go_wp2_with fail
  refine (HC2.out _ (HO.out.below (below_drawsN (box_below _ _) n1) HO.out.lt)).mono ?_
  rintro e w2 ⟨b2, rfl, n2, rfl⟩
  have HB := Lib.hid (fun v0 v1 v2 => below_set3 (below_drawsN (box_below w (.cells #[.int .i64 0, .int .i64 0, .int .i64 0] 23)) (n1 + n2)) (Nat.le_of_lt (box_lt w (.cells #[.int .i64 0, .int .i64 0, .int .i64 0] 23))) (Nat.le_refl w.heap.size) v0 v1 v2)
  go_wp2_with fail
  refine (HR1.out _).mono ?_
  rintro e w' ⟨rfl, rfl⟩
  go_wp2_with fail
  refine (HR2.out _).mono ?_
  rintro e w' ⟨rfl, rfl⟩
  go_wp2_with fail
  refine (HR3.out _).mono ?_
  rintro e w' ⟨rfl, rfl⟩
  cases k1
  · skip
    have HF := Lib.hid (par_none (show parR s.data.toList = none from HP.out.elim (fun h => (by cases h.1)) (fun h => h.2)))
    go_wp2_with fail
    refine bodyPost_ret (v := .tuple #[.agg #[.int .i64 0, .int .i64 0, .int .i64 0], .int .i64 4]) (by simp [results, Tryd.results16, go_sem]) rfl ⟨by rw [HF.out.1, HF.out.2]; rfl, ?_⟩
    exact (HB.out _ _ _).1
  · cases k2
    · skip
      have HF := Lib.hid (par_none (show parR s.data.toList = none from HP.out.elim (fun h => (by cases h.2.1)) (fun h => h.2)))
      go_wp2_with fail
      refine bodyPost_ret (v := .tuple #[.agg #[.int .i64 0, .int .i64 0, .int .i64 0], .int .i64 4]) (by simp [results, Tryd.results16, go_sem]) rfl ⟨by rw [HF.out.1, HF.out.2]; rfl, ?_⟩
      exact (HB.out _ _ _).1
    · cases k3
      · skip
        have HF := Lib.hid (par_none (show parR s.data.toList = none from HP.out.elim (fun h => (by cases h.2.2.1)) (fun h => h.2)))
        go_wp2_with fail
        refine bodyPost_ret (v := .tuple #[.agg #[.int .i64 0, .int .i64 0, .int .i64 0], .int .i64 4]) (by simp [results, Tryd.results16, go_sem]) rfl ⟨by rw [HF.out.1, HF.out.2]; rfl, ?_⟩
        exact (HB.out _ _ _).1
      · have HR := Lib.hid (show parR s.data.toList = some (c1, c2, c3) from HP.out.elim (fun h => h.2.2.2) (fun h => absurd ⟨rfl, rfl, rfl⟩ h.1))
        clear HP
        have hv1 := vld_k (c1, c2, c3)
        dsimp only at hv1
        cases hv : vldC (c1, c2, c3)
        · have HF := Lib.hid (par_bad HR.out (fun k => by rw [(vldC_iff _).2 k] at hv; cases hv))
          go_wp2_with fail
          refine (hv1 _ _ hv).mono ?_
          rintro e w' ⟨rfl, rfl⟩
          go_wp2_with fail
          refine bodyPost_ret (v := .tuple #[.agg #[.int .i64 0, .int .i64 0, .int .i64 0], .int .i64 27]) (by simp [results, Tryd.results16, go_sem]) rfl ⟨by rw [HF.out.1, HF.out.2]; rfl, ?_⟩
          exact below_al2 (HB.out _ _ _) _ _
        · have HF := Lib.hid (par_good HR.out ((vldC_iff _).1 hv))
          go_wp2_with fail
          refine (hv1 _ _ hv).mono ?_
          rintro e w' ⟨rfl, rfl⟩
          go_wp2_with fail
          refine bodyPost_ret (v := .tuple #[.agg #[.int .i64 c1, .int .i64 c2, .int .i64 c3], .int .i64 0]) (by simp [results, Tryd.results16, go_sem]) rfl ⟨by rw [HF.out.1, HF.out.2]; rfl, ?_⟩
          exact below_al2 (HB.out _ _ _) _ _

end Go.Proofs.YtcnhkoijphfibaaDoor
