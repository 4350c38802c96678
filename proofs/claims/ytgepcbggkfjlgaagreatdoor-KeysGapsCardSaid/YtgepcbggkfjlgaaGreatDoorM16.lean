/-
  Texts of the schema layer and of those beneath it, joined: KeyLv0, KeyY, KeyZ, KeyLv1, KeyLv, KeyLaws. Conditions stand at each contract.
-/
import Derived.Lib.MinMax
import Derived.Deep.DeepCutAuto
import Derived.BigQuiet
import Derived.Lib.SmallJoins
import Derived.Stop.LaidErr
import Derived.Test.YtgepcbggkfjlgaaGreatDoorM04
import Derived.Test.YtgepcbggkfjlgaaGreatDoorM06
import Derived.Test.YtgepcbggkfjlgaaGreatDoorM07
import Derived.Test.YtgepcbggkfjlgaaGreatDoorM10
import Derived.Test.YtgepcbggkfjlgaaGreatDoorM11
import Derived.Test.YtgepcbggkfjlgaaGreatDoorM12
import Derived.Test.YtgepcbggkfjlgaaGreatDoorM13
import Derived.Test.YtgepcbggkfjlgaaGreatDoorM14
import Derived.Test.YtgepcbggkfjlgaaGreatDoorM15

section
/-
  Pure facts of the chapter's examples of keys, and of the gaps of a ring. Nothing of the program stands here. No condition.
-/
set_option maxRecDepth 100000
set_option linter.unusedVariables false
set_option linter.unusedSimpArgs false
set_option linter.unnecessarySimpa false
namespace Go.Proofs.YtgepcbggkfjlgaaGreatDoor
open Go.RowKit Go.PlainAid

/-! ### gaps -/
def sgW (k : Ky) : Wn := (k.sf, k.su)
def gpsK (l : List Ky) (w : Wn) : List Wn := if min w.2 1099511627776 ≤ max w.1 0 then [] else gapP (max w.1 0) (min w.2 1099511627776) (unionW (l.map sgW))
def cvB (l : List Wn) (t : Int) : Bool := l.any fun w => inW w.1 w.2 t
theorem limI_in {t : Int} (h0 : 0 ≤ t) (h1 : t < 1099511627776) : limI t = t := by unfold limI; omega
theorem inW_iff {a b t : Int} (h0 : 0 ≤ t) (h1 : t < 1099511627776) : inW a b t = true ↔ a ≤ t ∧ t < b := by
  unfold inW
  rw [limI_in h0 h1, Bool.and_eq_true, decide_eq_true_eq, decide_eq_true_eq]
theorem cvB_iff {l : List Wn} {t : Int} (h0 : 0 ≤ t) (h1 : t < 1099511627776) : cvB l t = true ↔ cov l t := by
  unfold cvB cov
  rw [List.any_eq_true]
  exact ⟨fun ⟨w, hw, h⟩ => ⟨w, hw, (inW_iff h0 h1).1 h⟩, fun ⟨w, hw, h⟩ => ⟨w, hw, (inW_iff h0 h1).2 h⟩⟩
theorem gps_norm (l : List Ky) (w : Wn) : Norm (gpsK l w) := by
  unfold gpsK
  split
  · exact norm_nil
  · exact (gapP_ok (union_ok _).1).1
theorem gps_cov (l : List Ky) (w : Wn) {t : Int} (h0 : 0 ≤ t) (h1 : t < 1099511627776) (ha : inW w.1 w.2 t = true) : cvB (gpsK l w) t = !cvB (l.map sgW) t := by
  obtain ⟨a, b⟩ := (inW_iff h0 h1).1 ha
  have key : cvB (gpsK l w) t = true ↔ ¬ cvB (l.map sgW) t = true := by
    rw [cvB_iff h0 h1, cvB_iff h0 h1]
    unfold gpsK
    rw [if_neg (by omega), (gapP_ok (union_ok _).1).2 t, (union_ok _).2 t]
    exact ⟨fun h => h.2.2, fun h => ⟨by omega, by omega, h⟩⟩
  cases p : cvB (gpsK l w) t <;> cases q : cvB (l.map sgW) t <;> simp_all
/-! ### the examples -/
def kn1 : Ky := ⟨⟨#[110]⟩, ⟨#[115]⟩, 100, 150, 100, 160⟩
def rg1 : Ky := ⟨⟨#[107, 49]⟩, ⟨#[97, 32, 98]⟩, 1, 5, 0, 9⟩
def tx1 : ByteArray := ⟨#[107, 49, 32, 97, 37, 50, 48, 98, 32, 49, 32, 53, 32, 48, 32, 57, 10]⟩
theorem lv_rot : rotK [] ⟨#[110]⟩ ⟨#[115]⟩ 100 50 10 = ([kn1], 0) := by decide +kernel
theorem lv_s4 : sgnK [rg1] 4 = some rg1 := by decide +kernel
theorem lv_s5 : sgnK [rg1] 5 = none := by decide +kernel
theorem lv_a1 : accK [rg1] ⟨#[107, 49]⟩ 8 0 = (rg1, 0) := by decide +kernel
theorem lv_a2 : accK [rg1] ⟨#[107, 50]⟩ 8 0 = (kZ, 26) := by decide +kernel
theorem lv_par : parK tx1 = ([rg1], 0, 0) := by decide +kernel
theorem lv_txt : txtK [rg1] = (tx1, 0) := par_text_back lv_par
theorem lv_gap : gpsK [⟨⟨#[]⟩, ⟨#[]⟩, 0, 5, 0, 0⟩, ⟨⟨#[]⟩, ⟨#[]⟩, 8, 9, 0, 0⟩] (3, 12) = [(5, 8), (9, 12)] := by decide +kernel
theorem lv_p9 : pruK [rg1] 9 = [] := by decide +kernel
theorem lv_p8 : pruK [rg1] 8 = [rg1] := by decide +kernel
theorem lv_ck : chkK [rg1] = 0 := by decide +kernel
theorem lv_ck2 : chkK [rg1, rg1] = 7 := by decide +kernel
end Go.Proofs.YtgepcbggkfjlgaaGreatDoor
end

section
/-
  Contract of keys' Gaps. Condition: at most 1000 keys.
-/
set_option maxRecDepth 100000
set_option linter.unusedVariables false
set_option linter.unusedSimpArgs false
set_option linter.unnecessarySimpa false
namespace Go.Proofs.YtgepcbggkfjlgaaGreatDoor
open Go.RowKit Go.PlainAid

def wB (x y : Int) : Obj := .cells #[.int .i64 x, .int .i64 y] 29
theorem com_q (u v : Wn) (x y : Int) (b : Bool) (w : World) (h : comW u v = (x, y)) (hb : comB u v = b) :
    Calls Tryz.prog 57 #[.agg #[.int .i64 u.1, .int .i64 u.2], .agg #[.int .i64 v.1, .int .i64 v.2]] w fun e w' => e = .returned (.tuple #[.agg #[.int .i64 x, .int .i64 y], .bool b]) ∧ Below w.heap.size w w' := by
  subst hb
  have := common_s u v w
  rw [h] at this
  exact this
theorem wins_none (w : World) : WinsAt w none 0 0 [] := ⟨rfl, Nat.le_refl _, by unfold maxLen; omega, fun h => absurd h (Nat.lt_irrefl _)⟩
theorem WinsAt.moved {w w' : World} {ao : Option Addr} {n cap : Nat} {ps : List Wn} (h : WinsAt w ao n cap ps) (hs : w.heap.size ≤ w'.heap.size) (hk : ∀ b off, ao = some ⟨b, off, none⟩ → b < w.heap.size → w'.heap[b]? = w.heap[b]?) : WinsAt w' ao n cap ps :=
  ⟨h.1, h.2.1, h.2.2.1, fun hn => by
    obtain ⟨b, off, e, hi⟩ := h.2.2.2 hn
    exact ⟨b, off, e, Nat.lt_of_lt_of_le hi.1 hs, fun j hj => ⟨(World.cell?_of_block (a := ⟨b, off + j * 2, none⟩) (hk b off e hi.1)).trans (hi.2 j hj).1, (World.cell?_of_block (a := ⟨b, off + j * 2 + 1, none⟩) (hk b off e hi.1)).trans (hi.2 j hj).2⟩⟩⟩
theorem own_set {w : World} {base n : Nat} {e : TypeId} {size : Nat} {v : Value} {xs : List Value} (h : w.ownsRow base e size v n xs) {b : Nat} (hb : b < base) (j : Nat) (x : Value) : (w.setCell ⟨b, j, none⟩ x).ownsRow base e size v n xs :=
  h.kept (row := some b) ⟨rfl, rfl, rfl, by simp [World.setCell], fun k hk hne => heap_setCell_other w ⟨b, j, none⟩ k x fun q => hne (by rw [q])⟩ (by
    cases hv : v.ownBlock with
    | none => exact .inl rfl
    | some g => exact .inr fun q => by have := (h.lt g hv).1; have e : g = b := Option.some.inj q; omega)
/-- an append of one window to a row of the call's own, and what it leaves alone -/
theorem push_win {ops : Array Oper} {rest : List Oper} {o : Oper} {a : Act} {Q : Exit → Act → World → Prop} (wr : World) {base : Nat} {v : Value} {n : Nat} {xs : List Value} (hown : wr.ownsRow base 29 2 v n xs) (s x : Operand)
    (p q : Int) (hgd : o.guard = none)
    (ho : o.op = .call { callee := .builtin .append, args := #[s, x], argTypes := #[52, 52] })
    (hs : a.eval s = v) (hx : a.eval x = .slice (some ⟨wr.heap.size, 0, none⟩) 1 1) (hn : n + 1 ≤ 1000000000) (hbase : base ≤ wr.heap.size)
    (h : ∀ v' w', w'.ownsRow base 29 2 v' (n + 1) (xs ++ [.int .i64 p, .int .i64 q]) → Below base wr w' → (∀ k, k < wr.heap.size → v.ownBlock ≠ some k → w'.heap[k]? = wr.heap[k]?) → wpList Tryz.prog ops Q rest (a.put o.dst v') w') :
    wpList Tryz.prog ops Q (o :: rest) a (wr.alloc (.cells #[.int .i64 p, .int .i64 q] 29)) := by
  obtain ⟨i0, hi, hz0, hz1, hz2⟩ := info_wparts info_win
  refine wpList_append_own _ hgd s x 52 ho base 29 i0 (.agg #[.int .i64 0, .int .i64 0]) 2 16 Tryz.underlying52 hi hz0 hz1 hz2 rfl (by decide) v n xs hs (hown.alloc _) ⟨wr.heap.size, 0, none⟩ 1 1 [.int .i64 p, .int .i64 q] hx rfl
    (fun j u hj => ?_) (by intro u hu; simp at hu; rcases hu with rfl | rfl <;> rfl) (by unfold maxLen; omega) (by omega) (by simp; omega) ?_
  · rw [Go.WideShapes.add_plain, Nat.zero_add]
    exact (kbc_new wr (.cells #[.int .i64 p, .int .i64 q] 29)).cell (by rw [← Array.getElem?_toList]; exact hj)
  intro v' w' h1 h2 _
  refine h v' w' h1 ?_ fun k hk hne => ?_
  · exact ((Below.refl base wr).alloc hbase _).grown h2 (by simp; omega) (fun k hk => (hown.lt k hk).1)
  · rw [h2.block k (by simp; omega) (fun e => hne e.symm)]
    exact Below.heap_alloc wr _ k hk
theorem ins_len (l : List Wn) (w : Wn) : (insW l w).length = l.length + 1 := by
  unfold insW
  rw [List.length_append, List.length_cons]
  have := congrArg List.length (List.takeWhile_append_dropWhile (p := fun v : Wn => decide (v.1 ≤ w.1)) (l := l))
  rw [List.length_append] at this
  omega
theorem all_len_go : ∀ (l a : List Wn), (l.foldl (fun a w => if w.1 < w.2 then insW a w else a) a).length ≤ a.length + l.length
  | [], a => Nat.le_refl _
  | w :: l, a => by
    rw [List.foldl_cons]
    have h := all_len_go l (if w.1 < w.2 then insW a w else a)
    have h2 := ins_len a w
    have h3 : (if w.1 < w.2 then insW a w else a).length ≤ a.length + 1 := by split <;> omega
    rw [List.length_cons]; omega
theorem all_len (l : List Wn) : (allW l).length ≤ l.length := by
  have := all_len_go l []
  rw [List.length_nil, Nat.zero_add] at this
  exact this
theorem wcells_two (x y : Int) : wcells [(x, y)] = [.int .i64 x, .int .i64 y] := rfl
set_option maxHeartbeats 8000000 in
theorem gaps_k (ao : Option Addr) (n cap : Nat) (l : List Ky) (a b : Int) (G : List Wn) (w : World) (h : KsAt w ao n cap l) (hn : n ≤ 1000) (hG : gpsK l (a, b) = G) :
    Calls Tryz.prog 30 #[.slice ao n cap, .agg #[.int .i64 a, .int .i64 b]] w fun e w' => ∃ bo dap, e = .returned (.slice bo G.length dap) ∧ WinsAt w' bo G.length dap G ∧ Below w.heap.size w w' := by
  have H := Lib.hid h
  obtain ⟨h1, h2, h3, _, _⟩ := h
  subst h1
  unfold maxLen at h3
  have HP0 := Lib.hid (box_below w (wB a b))
  obtain ⟨t, ht⟩ : ∃ t, max a 0 = t := ⟨_, rfl⟩
  obtain ⟨e, he⟩ : ∃ e, min b 1099511627776 = e := ⟨_, rfl⟩
  unfold gpsK at hG
  dsimp only at hG
  rw [ht, he] at hG
  dsimp only [wB] at HP0
  by_cases hte : e ≤ t
  · rw [if_pos hte] at hG
    subst hG
    have HC1 := Lib.hid (show comW (a, b) (0, 1099511627776) = (0, 0) by unfold comW; dsimp only; rw [ht, he, if_pos hte])
    have HC2 := Lib.hid (show comB (a, b) (0, 1099511627776) = false by unfold comB; dsimp only; rw [ht, he, decide_eq_true hte]; rfl)
    clear ht he hte
    go_enter Tryz.func30, Tryz.ntmps30
    go_wp2_with fail
    refine (com_q (a, b) (0, 1099511627776) 0 0 false _ HC1.out HC2.out).mono ?_
    rintro ev w1 ⟨rfl, hb⟩
    have HB := Lib.hid (HP0.out.trans (hb.mono HP0.out.size))
    clear hb
    go_wp2_with fail
    go_ret
    exact ⟨none, 0, rfl, wins_none _, HB.out.trans ((box_below w1 _).mono HB.out.size)⟩
  · rw [if_neg hte] at hG
    have HG := Lib.hid (show gapE e ((unionW (l.map sgW)).foldl (gapS e) (t, [])) = G from hG)
    have HC1 := Lib.hid (show comW (a, b) (0, 1099511627776) = (t, e) by unfold comW; dsimp only; rw [ht, he, if_neg hte])
    have HC2 := Lib.hid (show comB (a, b) (0, 1099511627776) = true by unfold comB; dsimp only; rw [ht, he, decide_eq_false hte]; rfl)
    clear ht he hte hG
    go_enter Tryz.func30, Tryz.ntmps30
    go_wp2_with fail
    refine (com_q (a, b) (0, 1099511627776) t e true _ HC1.out HC2.out).mono ?_
    rintro ev w1 ⟨rfl, hb⟩
    have HB1 := Lib.hid (HP0.out.trans (hb.mono HP0.out.size))
    have HK3 := Lib.hid ((H.out.below HB1.out).below (box_below w1 (wB t e)))
    have HB3 := Lib.hid (HB1.out.trans ((box_below w1 (wB t e)).mono HB1.out.size))
    have HR3 := Lib.hid (kbc_new w1 (wB t e))
    have HS3 := Lib.hid (show w1.heap.size < (w1.alloc (wB t e)).heap.size by rw [World.size_alloc]; omega)
    have HS1 := Lib.hid (show w.heap.size ≤ w1.heap.size from HB1.out.size)
    clear hb HB1 HP0 HC1 HC2
    dsimp only [wB] at HK3 HB3 HR3 HS3
    go_wp2_with fail
    revert HK3 HB3 HR3 HS3
    generalize w1.alloc _ = V3
    intro HK3 HB3 HR3 HS3
    generalize w1.heap.size = R at HR3 HS3 HS1 ⊢
    go_loopw [7, 25] (fun sv iv wr => ∃ k : Nat, k ≤ l.length ∧ iv = .int .i64 k ∧ Hid (wr.ownsRow V3.heap.size 29 2 sv k (wcells ((l.take k).map sgW))) ∧ Hid (Below V3.heap.size V3 wr)) (fun _ iv _ => l.length - (intOf iv).toNat)
    case atStart => exact ⟨0, Nat.zero_le _, rfl, Lib.hid (World.ownsRow_nil _ _ _ _), Lib.hid (Below.refl _ _)⟩
    case round =>
      obtain ⟨k, hk, rfl, HO, HB⟩ := hrel
      by_cases hlt : k < l.length
      · obtain ⟨b', off, rfl, hsl⟩ := HK3.out.2.2.2.1 (by omega)
        have hat := (hsl.below HB.out hsl.1).at_ hlt
        obtain ⟨g, hg⟩ : ∃ g, kA l k = g := ⟨_, rfl⟩
        rw [hg] at hat
        have HT := Lib.hid (show wcells ((l.take (k + 1)).map sgW) = wcells ((l.take k).map sgW) ++ [.int .i64 g.sf, .int .i64 g.su] by rw [take_k l k hlt, List.map_append, hg, wcells_append]; rfl)
        have HO4 := Lib.hid (HO.out.alloc (kB g))
        have HB4 := Lib.hid (HB.out.alloc HB.out.size (kB g))
        have hk9 : k + 1 ≤ 1000000000 := by omega
        dsimp only [kB, kcells] at HO4 HB4
        obtain ⟨c0, c1, c2, c3, c4, c5⟩ := hat
        clear hsl hg
        go_wp2_with (at_builtin; refine push_win _ HO4.out (.tmp 29) (.tmp 32) g.sf g.su ?_ ?_ ?_ ?_ ?_ ?_ ?_; exact rfl; exact rfl; exact rfl; (rw [World.size_alloc]; exact rfl); exact hk9; exact HB4.out.size; intro v5 w5 hown5 hb5 _)
        rw [← HT.out] at hown5
        have HO5 := Lib.hid hown5
        have HB5 := Lib.hid (HB4.out.trans hb5)
        clear hown5 hb5
        go_wp2_with fail
        go_roundw
        case rel => exact ⟨k + 1, by omega, by go_num, HO5, HB5⟩
        case measure => simp [intOf]; omega
      · obtain rfl : k = l.length := by omega
        have ho := HO.out
        rw [List.take_length] at ho
        obtain ⟨po, cp, rfl, hwa, hz, _⟩ := wins_of_owns ho
        have HWa := Lib.hid hwa
        have HPn := Lib.hid (show po = none → l.length = 0 ∧ cp = 0 from fun q => ⟨(by
          rcases Nat.eq_zero_or_pos l.length with h | h
          · exact h
          · obtain ⟨_, _, e2, _⟩ := hwa.2.2.2 h
            rw [q] at e2; cases e2), hz q⟩)
        have hcp := hwa.2.2.1
        unfold maxLen at hcp
        obtain ⟨U, hU⟩ : ∃ U, unionW (l.map sgW) = U := ⟨_, rfl⟩
        have HUl := Lib.hid (show U.length ≤ 1000 by rw [← hU]; have h4 := merge_len (allW (l.map sgW)); have h5 := all_len (l.map sgW); unfold unionW; rw [List.length_map] at h5; omega)
        rw [hU] at HG
        have HU := Lib.hid hU
        have HRk := Lib.hid (HR3.out.step HB.out)
        have HRl := Lib.hid (Nat.lt_of_lt_of_le HS3.out HB.out.size)
        have HBk := Lib.hid (HB3.out.trans (HB.out.mono HB3.out.size))
        clear ho hwa hz hU HO
        go_wp2_with fail
        refine (union_f po l.length cp (l.map sgW) _ HWa.out hn HPn.out).mono ?_
        rintro ev w6 ⟨uo, un, uc, rfl, hwu, hb, hf⟩
        rw [HU.out] at hwu
        have HWu := Lib.hid hwu
        have hun : un ≤ 1000 := by have := HUl.out; have := hwu.1; omega
        have huc := hwu.2.2.1
        have huc2 := hwu.2.1
        unfold maxLen at huc
        have HF := Lib.hid (show ∀ b off, uo = some ⟨b, off, none⟩ → R < b from fun b off q => Nat.lt_of_lt_of_le HRl.out (hf b off q))
        have HFu := Lib.hid (show ∀ b off, uo = some ⟨b, off, none⟩ → 0 < un → b < w6.heap.size from fun b off q h0 => by
          obtain ⟨b2, o2, e2, hi⟩ := HWu.out.2.2.2 h0
          rw [q] at e2; cases e2; exact hi.1)
        have HR6 := Lib.hid (HRk.out.step hb)
        have HS6 := Lib.hid (Nat.lt_of_lt_of_le HRl.out hb.size)
        have HB6 := Lib.hid (HBk.out.trans (hb.mono HBk.out.size))
        clear hb hf hwu
        go_wp2_with fail
        go_loopw [8, 38] (fun gv iv wr => ∃ (k m : Nat) (r : Int) (gl : List Wn), k ≤ un ∧ iv = .int .i64 k ∧ m ≤ k ∧ Hid (wr.ownsRow w6.heap.size 29 2 gv m (wcells gl)) ∧ Hid ((U.take k).foldl (gapS e) (t, []) = (r, gl)) ∧ Hid (KbC wr R (wB r e)) ∧ Hid (WinsAt wr uo un uc U) ∧ Hid (Below w.heap.size w wr) ∧ Hid (w6.heap.size ≤ wr.heap.size)) (fun _ iv _ => un - (intOf iv).toNat)
        case atStart => exact ⟨0, 0, t, [], Nat.zero_le _, rfl, Nat.le_refl _, Lib.hid (World.ownsRow_nil _ _ _ _), Lib.hid rfl, HR6, HWu, HB6, Lib.hid (Nat.le_refl _)⟩
        case round =>
          clear HB HBk HRk
          obtain ⟨k, m, r, gl, hk, rfl, hmk, HO, HFo, HR, HW, HB, HSz⟩ := hrel
          have HOl := Lib.hid (fun q h => (HO.out.lt q h).2)
          by_cases hlt : k < un
          · have hUl : U.length = un := HW.out.1
            obtain ⟨b', off, rfl, hsl⟩ := HW.out.2.2.2 (by omega)
            obtain ⟨d0, d1⟩ := hsl.2 k (by omega)
            obtain ⟨⟨x, y⟩, hxy⟩ : ∃ p, wnAt U k = p := ⟨_, rfl⟩
            rw [hxy] at d0 d1
            dsimp only at d0 d1
            have HFn := Lib.hid (show (U.take (k + 1)).foldl (gapS e) (t, []) = gapS e (r, gl) (x, y) by rw [take_wn _ _ (by omega), List.foldl_append, HFo.out, hxy]; rfl)
            have k1 : (k : Int) < (un : Int) := by omega
            have hm9 : m + 1 ≤ 1000000000 := by omega
            have HbR := Lib.hid (HF.out b' off rfl)
            have HbS := Lib.hid (HFu.out b' off rfl (by omega))
            clear hsl hxy hUl
            have HRwr := Lib.hid HR.out.big
            have HX7 := Lib.hid (kbc_new wr (wB x y))
            have HR7 := Lib.hid (HR.out.step (box_below wr (wB x y)))
            have HB7 := Lib.hid (HB.out.alloc HB.out.size (wB x y))
            have HO7 := Lib.hid (HO.out.alloc (wB x y))
            have HW7 := Lib.hid (HW.out.below (box_below wr (wB x y)))
            have HS7 := Lib.hid (show wr.heap.size < (wr.alloc (wB x y)).heap.size by rw [World.size_alloc]; omega)
            dsimp only [wB] at HX7 HR7 HB7 HO7 HW7 HS7
            have q0 := HR7.out.cell (i := 0) (v := .int .i64 r) rfl
            have q1 := HR7.out.cell (i := 1) (v := .int .i64 e) rfl
            by_cases hm : min e x ≤ r
            · have HC1 := Lib.hid (show comW (r, e) (r, x) = (0, 0) by unfold comW; dsimp only; rw [if_pos (by omega)])
              have HC2 := Lib.hid (show comB (r, e) (r, x) = false by unfold comB; dsimp only; rw [decide_eq_true (by omega)]; rfl)
              have HN := Lib.hid (show gapS e (r, gl) (x, y) = (max r y, gl) by unfold gapS; dsimp only; rw [if_neg (by omega)])
              clear hm
              go_wp2_with fail
              refine (com_q (r, e) (r, x) 0 0 false _ HC1.out HC2.out).mono ?_
              rintro ev w8 ⟨rfl, hb⟩
              have hb9 := hb.trans ((box_below w8 (wB 0 0)).mono hb.size)
              have HX9 := Lib.hid (HX7.out.step hb9)
              have HR9 := Lib.hid (HR7.out.step hb9)
              have HB9 := Lib.hid (HB7.out.trans (hb9.mono HB7.out.size))
              have HO9 := Lib.hid (own_below HO7.out hb9)
              have HW9 := Lib.hid (HW7.out.below hb9)
              have HS9 := Lib.hid (Nat.le_trans (Nat.le_trans HSz.out (Nat.le_of_lt HS7.out)) hb9.size)
              dsimp only [wB] at HX9 HR9 HB9 HO9 HW9 HS9
              clear hb hb9 q0 q1 d0 d1
              have q0 := HR9.out.cell (i := 0) (v := .int .i64 r) rfl
              have q2 := HX9.out.cell (i := 1) (v := .int .i64 y) rfl
              have qf := HR9.out.frz (i := 0)
              obtain ⟨mx, hmx⟩ : ∃ z, max r y = z := ⟨_, rfl⟩
              rw [hmx] at HN
              go_wp2_with fail
              go_roundw
              case rel => exact ⟨k + 1, m, mx, gl, by omega, by go_num, by omega, Lib.hid (own_set HO9.out HS6.out 0 _), Lib.hid (HFn.out.trans HN.out), Lib.hid (HR9.out.set _), Lib.hid (HW9.out.moved (by simp [World.setCell]) (fun b2 o2 q _ => heap_setCell_other _ ⟨R, 0, none⟩ b2 _ (by cases q; exact Nat.ne_of_gt HbR.out))), Lib.hid (HB9.out.setCell (p := ⟨R, 0, none⟩) (Nat.le_trans HS1.out (Nat.le_refl _)) _), Lib.hid (by simpa [World.setCell] using HS9.out)⟩
              case measure => simp [intOf]; omega
            · obtain ⟨mn, hmn⟩ : ∃ z, min e x = z := ⟨_, rfl⟩
              rw [hmn] at hm
              have HC1 := Lib.hid (show comW (r, e) (r, x) = (r, mn) by unfold comW; dsimp only; rw [hmn, if_neg (by omega), show max r r = r by omega])
              have HC2 := Lib.hid (show comB (r, e) (r, x) = true by unfold comB; dsimp only; rw [hmn, decide_eq_false (by omega)]; rfl)
              have HN := Lib.hid (show gapS e (r, gl) (x, y) = (max r y, gl ++ [(r, mn)]) by unfold gapS; dsimp only; rw [hmn, if_pos (by omega)])
              clear hm hmn
              go_wp2_with fail
              refine (com_q (r, e) (r, x) r mn true _ HC1.out HC2.out).mono ?_
              rintro ev w8 ⟨rfl, hb⟩
              have hb9 := hb.trans ((box_below w8 (wB r mn)).mono hb.size)
              have HX9 := Lib.hid (HX7.out.step hb9)
              have HR9 := Lib.hid (HR7.out.step hb9)
              have HB9 := Lib.hid (HB7.out.trans (hb9.mono HB7.out.size))
              have HO9 := Lib.hid (own_below HO7.out hb9)
              have HW9 := Lib.hid (HW7.out.below hb9)
              have HS9 := Lib.hid (Nat.le_trans (Nat.le_trans HSz.out (Nat.le_of_lt HS7.out)) hb9.size)
              have HSw := Lib.hid (Nat.lt_of_lt_of_le HS7.out hb9.size)
              have HNb := Lib.hid (kbc_new w8 (wB r mn))
              dsimp only [wB] at HX9 HR9 HB9 HO9 HW9 HS9 HNb HSw
              clear hb hb9 q0 q1 d0 d1
              obtain ⟨mx, hmx⟩ : ∃ z, max r y = z := ⟨_, rfl⟩
              rw [hmx] at HN
              go_wp2_with (at_builtin; refine push_win _ HO9.out (.tmp 53) (.tmp 55) r mn ?_ ?_ ?_ ?_ ?_ ?_ ?_; exact rfl; exact rfl; exact rfl; (rw [World.size_alloc]; exact rfl); exact hm9; exact HS9.out; intro v10 V10 hown10 hb10 hk10; have HX10 := Lib.hid (show KbC V10 wr.heap.size (wB x y) from (hk10 _ HSw.out (fun q => Nat.lt_irrefl _ (HOl.out _ q))).trans HX9.out); have HR10 := Lib.hid (show KbC V10 R (wB r e) from HR9.out.keep hb10 HS6.out); have q0 := HR10.out.cell (i := 0) (v := .int .i64 r) rfl; have q2 := HX10.out.cell (i := 1) (v := .int .i64 y) rfl; have qf := HR10.out.frz (i := 0))
              have HO10 := Lib.hid (show V10.ownsRow w6.heap.size 29 2 v10 (m + 1) (wcells (gl ++ [(r, mn)])) by rw [wcells_append]; exact hown10)
              have HB10 := Lib.hid (HB9.out.trans (hb10.mono HB6.out.size))
              have HW10 := Lib.hid (HW9.out.moved hb10.size (fun b2 o2 q _ => hb10.block b2 (by cases q; exact HbS.out)))
              have HS10 := Lib.hid (Nat.le_trans HS9.out hb10.size)
              clear hown10 hb10 hk10
              go_roundw
              case rel => exact ⟨k + 1, m + 1, mx, gl ++ [(r, mn)], by omega, by go_num, by omega, Lib.hid (own_set HO10.out HS6.out 0 _), Lib.hid (HFn.out.trans HN.out), Lib.hid (HR10.out.set _), Lib.hid (HW10.out.moved (by simp [World.setCell]) (fun b2 o2 q _ => heap_setCell_other _ ⟨R, 0, none⟩ b2 _ (by cases q; exact Nat.ne_of_gt HbR.out))), Lib.hid (HB10.out.setCell (p := ⟨R, 0, none⟩) (Nat.le_trans HS1.out (Nat.le_refl _)) _), Lib.hid (by simpa [World.setCell] using HS10.out)⟩
              case measure => simp [intOf]; omega
          · have hkn : k = un := by omega
            subst hkn
            have hfo := HFo.out
            rw [List.take_of_length_le (by rw [HW.out.1]; exact Nat.le_refl _)] at hfo
            have hg := HG.out
            rw [hfo] at hg
            unfold gapE at hg
            dsimp only at hg
            have q0 : wr.cell? ⟨R, 0, none⟩ = some (.int .i64 r) := HR.out.cell rfl
            have q1 : wr.cell? ⟨R, 1, none⟩ = some (.int .i64 e) := HR.out.cell rfl
            have hm9 : m + 1 ≤ 1000000000 := by omega
            clear hfo
            by_cases hre : r < e
            · rw [if_pos hre] at hg
              have HG2 := Lib.hid hg
              clear hg
              go_wp2_with (at_builtin; refine push_win _ HO.out (.tmp 69) (.tmp 71) r e ?_ ?_ ?_ ?_ ?_ ?_ ?_; exact rfl; exact rfl; exact rfl; exact rfl; exact hm9; exact HSz.out; intro v10 V10 hown10 hb10 hk10)
              have ho10 : V10.ownsRow w6.heap.size 29 2 v10 (m + 1) (wcells (gl ++ [(r, e)])) := by rw [wcells_append]; exact hown10
              obtain ⟨bo, dap, rfl, hwo, _, hln⟩ := wins_of_owns ho10
              rw [HG2.out] at hwo hln
              have HB10 := Lib.hid (HB.out.trans (hb10.mono HB6.out.size))
              have HWo := Lib.hid hwo
              have HLn := Lib.hid hln
              clear hown10 hb10 hk10 ho10 hwo hln
              go_wp2_with fail
              go_ret
              exact ⟨bo, dap, by rw [HLn.out]; rfl, by rw [HLn.out]; exact HWo.out, HB10.out⟩
            · rw [if_neg hre] at hg
              subst hg
              obtain ⟨bo, dap, rfl, hwo, _, hln⟩ := wins_of_owns HO.out
              have HWo := Lib.hid hwo
              have HLn := Lib.hid hln
              clear hwo hln
              go_wp2_with fail
              go_ret
              exact ⟨bo, dap, by rw [HLn.out]; rfl, by rw [HLn.out]; exact HWo.out, HB.out⟩
end Go.Proofs.YtgepcbggkfjlgaaGreatDoor
end

section
/-
  Contract of the specification's Gaps. Condition: at most 1000 keys.
-/
set_option maxRecDepth 100000
set_option linter.unusedVariables false
set_option linter.unusedSimpArgs false
set_option linter.unnecessarySimpa false
namespace Go.Proofs.YtgepcbggkfjlgaaGreatDoor
open Go.RowKit Go.PlainAid

theorem sw_take {l : List Ky} {k : Nat} {g : Ky} (h : k < l.length) (hg : kA l k = g) : (l.map sgW).take (k + 1) = (l.map sgW).take k ++ [(g.sf, g.su)] := by
  rw [← List.map_take, ← List.map_take, take_k l k h, List.map_append, hg]; rfl
theorem sw_all (l : List Ky) : (l.map sgW).take l.length = l.map sgW := by
  rw [← List.map_take, List.take_length]
theorem unt_ge (t : Int) (L : List Wn) : t ≤ untL t L := (unt_fold t L t (Int.le_refl _)).1
theorem nxt_le (t e : Int) (L : List Wn) : nxtL t e L ≤ e := (nxt_fold t L e).1
/-- windows of a list that begin behind an instant -/
def aftN (t : Int) (L : List Wn) : Nat := (L.filter fun s => decide (t < s.1)).length
theorem aft_mono {t u : Int} (h : t ≤ u) : ∀ L : List Wn, aftN u L ≤ aftN t L
  | [] => Nat.le_refl _
  | s :: L => by
    have := aft_mono h L
    unfold aftN at this ⊢
    rw [List.filter_cons, List.filter_cons]
    by_cases h1 : u < s.1
    · rw [if_pos (decide_eq_true h1), if_pos (decide_eq_true (by omega : t < s.1))]; simp; exact this
    · rw [if_neg (by simpa using h1)]
      split
      · rw [List.length_cons]; omega
      · exact this
theorem aft_less {t u : Int} : ∀ {L : List Wn} {s : Wn}, s ∈ L → t < s.1 → s.1 ≤ u → aftN u L < aftN t L
  | v :: L, s, hs, h1, h2 => by
    have hm := aft_mono (t := t) (u := u) (by omega) L
    unfold aftN at hm ⊢
    rw [List.filter_cons, List.filter_cons]
    rcases List.mem_cons.1 hs with rfl | hs
    · rw [if_neg (by simp; omega), if_pos (decide_eq_true h1), List.length_cons]; omega
    · have ih := aft_less (t := t) (u := u) hs h1 h2
      unfold aftN at ih
      by_cases h3 : u < v.1
      · rw [if_pos (decide_eq_true h3), if_pos (decide_eq_true (by omega : t < v.1)), List.length_cons, List.length_cons]; omega
      · rw [if_neg (by simpa using h3)]
        split
        · rw [List.length_cons]; omega
        · exact ih
theorem aft_le (t : Int) (L : List Wn) : aftN t L ≤ L.length := List.length_filter_le _ _
/-- one gap more, one window less to come (or the end is reached) -/
theorem aft_step {t e : Int} {L : List Wn} (hlt : t < e) (hu : ¬ t < untL t L) : aftN (nxtL t e L) L < aftN t L ∨ nxtL t e L = e := by
  rcases (nxt_fold t L e).2.1 with q | ⟨s, hs, h1, h2, h3⟩
  · exact .inr q
  · exact .inl (aft_less hs h1 (by change s.1 = nxtL t e L at h3; omega))
theorem swp_none {t e t' : Int} {L g : List Wn} (h : SwpI t e L t' g) (ht : e ≤ t) : g = [] := by
  refine norm_unique _ _ h.nrm norm_nil fun y => ?_
  rw [h.cvr y]
  exact ⟨fun ⟨a, b, _, _⟩ => absurd b (by omega), fun q => absurd q (cov_nil y)⟩
theorem swp_is {t e t' : Int} {L g G : List Wn} (h : SwpI t e L t' g) (ht : e ≤ t') (hG : (if e ≤ t then [] else gapP t e (unionW L)) = G) : g = G := by
  by_cases q : e ≤ t
  · rw [if_pos q] at hG; rw [← hG]; exact swp_none h q
  · rw [if_neg q] at hG; rw [← hG]; exact swp_gap h ht
set_option maxHeartbeats 8000000 in
theorem rgaps_k (ao : Option Addr) (n cap : Nat) (l : List Ky) (a b : Int) (G : List Wn) (w : World) (h : KsAt w ao n cap l) (hn : n ≤ 1000) (hG : gpsK l (a, b) = G) :
    Calls Tryz.prog 31 #[.slice ao n cap, .agg #[.int .i64 a, .int .i64 b]] w fun e w' => ∃ bo dap, e = .returned (.slice bo G.length dap) ∧ WinsAt w' bo G.length dap G ∧ Below w.heap.size w w' := by
  have H := Lib.hid h
  obtain ⟨h1, h2, h3, _, _⟩ := h
  subst h1
  unfold maxLen at h3
  have HP0 := Lib.hid (box_below w (wB a b))
  have HP1 := Lib.hid (kbc_new w (wB a b))
  obtain ⟨t0, ht⟩ : ∃ t, max a 0 = t := ⟨_, rfl⟩
  obtain ⟨e, he⟩ : ∃ e, min b 1099511627776 = e := ⟨_, rfl⟩
  obtain ⟨L, hL⟩ : ∃ L, l.map sgW = L := ⟨_, rfl⟩
  have HL := Lib.hid hL
  have HLl := Lib.hid (show L.length = l.length by rw [← hL, List.length_map])
  unfold gpsK at hG
  dsimp only at hG
  rw [ht, he, hL] at hG
  have HG := Lib.hid hG
  have HT := Lib.hid ht
  have HE := Lib.hid he
  have he0 : e ≤ 1099511627776 := by omega
  have ht0 : 0 ≤ t0 := by omega
  dsimp only [wB] at HP0 HP1
  have q0 := HP1.out.cell (i := 0) (v := .int .i64 a) rfl
  have q1 := HP1.out.cell (i := 1) (v := .int .i64 b) rfl
  clear hG hL ht he
  go_enter Tryz.func31, Tryz.ntmps31
  go_wp2_with fail
  go_quiet (fail)
  generalize hW1 : World.drewN (w.alloc _) _ = W1
  have HB1 : Hid (Below w.heap.size w W1) := Lib.hid (by rw [← hW1]; exact HP0.out.trans ⟨rfl, rfl, rfl, Nat.le_refl _, fun _ _ => rfl⟩)
  have HK1 := Lib.hid (H.out.below HB1.out)
  clear hW1 q0 q1 HP0 HP1
  go_upto_if 17 with fail
  go_cut [5] (fun tv wx => tv = .int .i64 t0 ∧ wx = W1)
  case first =>
    by_cases d : a < 0
    · obtain rfl : t0 = 0 := by have := HT.out; omega
      go_wp2_with fail
      go_meet
      exact ⟨rfl, rfl⟩
    · obtain rfl : t0 = a := by have := HT.out; omega
      go_wp2_with fail
      go_meet
      exact ⟨rfl, rfl⟩
  case rest =>
  obtain ⟨rfl, rfl⟩ := hcut
  go_upto_if 19 with fail
  go_cut [6] (fun ev wx => ev = .int .i64 e ∧ wx = wc)
  case first =>
    by_cases d : (1099511627776 : Int) < b
    · obtain rfl : e = 1099511627776 := by have := HE.out; omega
      go_wp2_with fail
      go_meet
      exact ⟨rfl, rfl⟩
    · obtain rfl : e = b := by have := HE.out; omega
      go_wp2_with fail
      go_meet
      exact ⟨rfl, rfl⟩
  case rest =>
  obtain ⟨rfl, hw⟩ := hcut
  obtain rfl := hw.symm
  go_wp2_with fail
  go_loopw [5, 7] (fun tv gv wr => ∃ (t : Int) (m : Nat) (g : List Wn), tv = .int .i64 t ∧ t0 ≤ t ∧ m ≤ L.length + 1 ∧ Hid (t < e → m + aftN t L ≤ L.length) ∧ Hid (SwpI t0 e L t g) ∧ Hid (wr.ownsRow wc.heap.size 29 2 gv m (wcells g)) ∧ Hid (Below wc.heap.size wc wr)) (fun tv _ _ => (e - intOf tv).toNat)
  case atStart => exact ⟨t0, 0, [], rfl, Int.le_refl _, Nat.zero_le _, Lib.hid (fun _ => by rw [Nat.zero_add]; exact aft_le _ _), Lib.hid (swpI_nil _ _ _), Lib.hid (World.ownsRow_nil _ _ _ _), Lib.hid (Below.refl _ _)⟩
  case round =>
    obtain ⟨t, m, g, rfl, htt, hm, HA, HS, HO, HB⟩ := hrel
    by_cases hte : t < e
    · have hm1 : m ≤ L.length := by have := HA.out hte; omega
      have hL9 : L.length ≤ 1000 := by rw [HLl.out]; exact hn
      have hm9 : m + 1 ≤ 1000000000 := by omega
      have HO2 := HO
      have HB2 := HB
      go_wp2_with fail
      go_loopw [8, 9, 10] (fun uv nv iv wy => ∃ (k : Nat) (un nx : Int), k ≤ l.length ∧ iv = .int .i64 k ∧ uv = .int .i64 un ∧ nv = .int .i64 nx ∧ Hid ((L.take k).foldl (untS t) t = un) ∧ Hid ((L.take k).foldl (nxtS t) e = nx) ∧ Hid (wy.ownsRow wc.heap.size 29 2 u7 m (wcells g)) ∧ Hid (Below wc.heap.size wc wy)) (fun _ _ iv _ => l.length - (intOf iv).toNat)
      case atStart => exact ⟨0, t, e, Nat.zero_le _, rfl, rfl, rfl, Lib.hid rfl, Lib.hid rfl, HO2, HB2⟩
      case round =>
        clear HO2 HB2 HO HB
        obtain ⟨k, un, nx, hk, rfl, rfl, rfl, HU, HX, HO, HB⟩ := hrel
        by_cases hlt : k < l.length
        · obtain ⟨b', off, rfl, hsl⟩ := HK1.out.2.2.2.1 (by omega)
          have hat := (hsl.below HB.out hsl.1).at_ hlt
          obtain ⟨y, hg⟩ : ∃ y, kA l k = y := ⟨_, rfl⟩
          rw [hg] at hat
          have hsw := sw_take hlt hg
          rw [HL.out] at hsw
          have HT := Lib.hid (show (L.take (k + 1)).foldl (untS t) t = untS t un (y.sf, y.su) ∧ (L.take (k + 1)).foldl (nxtS t) e = nxtS t nx (y.sf, y.su) from ⟨by rw [hsw, List.foldl_append, HU.out]; rfl, by rw [hsw, List.foldl_append, HX.out]; rfl⟩)
          have HO9 := Lib.hid (HO.out.alloc (wB y.sf y.su))
          have HB9 := Lib.hid (HB.out.alloc HB.out.size (wB y.sf y.su))
          dsimp only [wB] at HO9 HB9
          obtain ⟨c0, c1, c2, c3, c4, c5⟩ := hat
          obtain ⟨yi, ys, sf, su, af, au⟩ := y
          dsimp only at c0 c1 c2 c3 c4 c5 HT HO9 HB9
          clear hsl hsw
          by_cases h1 : sf ≤ t
          · by_cases h2 : un < su
            · have a1 : decide (sf ≤ t) = true := decide_eq_true h1
              have a3 : decide (t < sf) = false := decide_eq_false (by omega)
              have a4 : ¬ t < sf := by omega
              have a2 : decide (un < su) = true := decide_eq_true h2
              clear hg
              go_wp2_with fail
              go_roundw
              case rel => exact ⟨k + 1, su, nx, by omega, by go_num, rfl, rfl, Lib.hid (HT.out.1.trans (by unfold untS; dsimp only; rw [if_pos ⟨h1, h2⟩])), Lib.hid (HT.out.2.trans (by unfold nxtS; dsimp only; rw [if_neg (by omega)])), Lib.hid HO9.out, HB9⟩
              case measure => simp [intOf]; omega
            · have a1 : decide (sf ≤ t) = true := decide_eq_true h1
              have a3 : decide (t < sf) = false := decide_eq_false (by omega)
              have a4 : ¬ t < sf := by omega
              have a2 : decide (un < su) = false := decide_eq_false h2
              clear hg
              go_wp2_with fail
              go_roundw
              case rel => exact ⟨k + 1, un, nx, by omega, by go_num, rfl, rfl, Lib.hid (HT.out.1.trans (by unfold untS; dsimp only; rw [if_neg (by omega)])), Lib.hid (HT.out.2.trans (by unfold nxtS; dsimp only; rw [if_neg (by omega)])), Lib.hid HO9.out, HB9⟩
              case measure => simp [intOf]; omega
          · by_cases h2 : sf < su
            · by_cases h3 : sf < nx
              · have a1 : decide (sf ≤ t) = false := decide_eq_false h1
                have a3 : decide (t < sf) = true := decide_eq_true (by omega)
                have a4 : t < sf := by omega
                have a5 : decide (sf < su) = true := decide_eq_true h2
                have a6 : decide (sf < nx) = true := decide_eq_true h3
                clear hg
                go_wp2_with fail
                go_roundw
                case rel => exact ⟨k + 1, un, sf, by omega, by go_num, rfl, rfl, Lib.hid (HT.out.1.trans (by unfold untS; dsimp only; rw [if_neg (by omega)])), Lib.hid (HT.out.2.trans (by unfold nxtS; dsimp only; rw [if_pos ⟨by omega, h2, h3⟩])), Lib.hid HO9.out, HB9⟩
                case measure => simp [intOf]; omega
              · have a1 : decide (sf ≤ t) = false := decide_eq_false h1
                have a3 : decide (t < sf) = true := decide_eq_true (by omega)
                have a4 : t < sf := by omega
                have a5 : decide (sf < su) = true := decide_eq_true h2
                have a6 : decide (sf < nx) = false := decide_eq_false h3
                clear hg
                go_wp2_with fail
                go_roundw
                case rel => exact ⟨k + 1, un, nx, by omega, by go_num, rfl, rfl, Lib.hid (HT.out.1.trans (by unfold untS; dsimp only; rw [if_neg (by omega)])), Lib.hid (HT.out.2.trans (by unfold nxtS; dsimp only; rw [if_neg (by omega)])), Lib.hid HO9.out, HB9⟩
                case measure => simp [intOf]; omega
            · have a1 : decide (sf ≤ t) = false := decide_eq_false h1
              have a3 : decide (t < sf) = true := decide_eq_true (by omega)
              have a4 : t < sf := by omega
              have a5 : decide (sf < su) = false := decide_eq_false h2
              clear hg
              go_wp2_with fail
              go_roundw
              case rel => exact ⟨k + 1, un, nx, by omega, by go_num, rfl, rfl, Lib.hid (HT.out.1.trans (by unfold untS; dsimp only; rw [if_neg (by omega)])), Lib.hid (HT.out.2.trans (by unfold nxtS; dsimp only; rw [if_neg (by omega)])), Lib.hid HO9.out, HB9⟩
              case measure => simp [intOf]; omega
        · obtain rfl : k = l.length := by omega
          have hun : untL t L = un := by rw [← HU.out, ← HLl.out, List.take_length]; rfl
          have hnx : nxtL t e L = nx := by rw [← HX.out, ← HLl.out, List.take_length]; rfl
          have hug := unt_ge t L
          have hnl := nxt_le t e L
          rw [hun] at hug
          rw [hnx] at hnl
          by_cases hgt : t < un
          · have HS1 := Lib.hid (show SwpI t0 e L un g by have := swpI_unt HS.out hte (by rw [hun]; exact hgt); rw [hun] at this; exact this)
            have HA1 := Lib.hid (show un < e → m + aftN un L ≤ L.length from fun _ => by have h5 := HA.out hte; have h6 := aft_mono (t := t) (u := un) (by omega) L; omega)
            clear hun hnx hug hnl
            go_wp2_with fail
            go_roundw
            case rel => exact ⟨un, m, g, rfl, by omega, hm, HA1, HS1, HO, HB⟩
            case measure => simp [intOf]; omega
          · have hst := swpI_nxt HS.out hte (by rw [hun]; exact hgt)
            rw [hnx] at hst
            have HS1 := Lib.hid hst.1
            have hlt2 := hst.2
            have HA1 := Lib.hid (show nx < e → (m + 1) + aftN nx L ≤ L.length from fun h7 => by
              have h5 := HA.out hte
              have h6 := aft_step hte (L := L) (t := t) (by rw [hun]; exact hgt)
              rw [hnx] at h6
              omega)
            clear hun hnx hug hst
            go_wp2_with (at_builtin; refine push_win _ HO.out (.tmp 71) (.tmp 75) t nx ?_ ?_ ?_ ?_ ?_ ?_ ?_; exact rfl; exact rfl; exact rfl; exact rfl; exact hm9; exact HB.out.size; intro v10 V10 hown10 hb10 hk10)
            have HO10 := Lib.hid (show V10.ownsRow wc.heap.size 29 2 v10 (m + 1) (wcells (g ++ [(t, nx)])) by rw [wcells_append]; exact hown10)
            have HB10 := Lib.hid (HB.out.trans hb10)
            clear hown10 hb10 hk10
            go_roundw
            case rel => exact ⟨nx, m + 1, g ++ [(t, nx)], rfl, by omega, by omega, HA1, HS1, HO10, HB10⟩
            case measure => simp [intOf]; omega
    · have HE2 := Lib.hid (swp_is HS.out (by omega) HG.out)
      obtain ⟨bo, dap, rfl, hwo, _, hln⟩ := wins_of_owns HO.out
      have HWo := Lib.hid hwo
      have HLn := Lib.hid hln
      have HBf := Lib.hid (HB1.out.trans (HB.out.mono HB1.out.size))
      clear hwo hln
      go_wp2_with fail
      go_ret
      exact ⟨bo, dap, by rw [← HE2.out, HLn.out]; rfl, by rw [← HE2.out, HLn.out]; exact HWo.out, HBf.out⟩
end Go.Proofs.YtgepcbggkfjlgaaGreatDoor
end

section
/-
  The contract of the laws' live: the chapter's examples. Condition: the tables of strconv and strings lie as they should.
-/
set_option maxRecDepth 100000
set_option linter.unusedVariables false
set_option linter.unusedSimpArgs false
set_option linter.unnecessarySimpa false
namespace Go.Proofs.YtgepcbggkfjlgaaGreatDoor
open Go.RowKit Go.PlainAid

structure WK (w : World) : Prop where
  io : IntOk w
  mx : MaxOk w
theorem WK.below {w w' : World} (h : WK w) (hb : Below w.heap.size w w') : WK w' :=
  ⟨h.io.below hb, by obtain ⟨m, hm⟩ := h.mx; exact ⟨m, (hb.cell (World.block_lt_of_cell? w _ hm)).trans hm⟩⟩
theorem ring_k (w : World) : Calls Tryz.prog 32 #[] w fun e w' => e = .returned (.slice (some ⟨w.heap.size, 0, none⟩) 1 1) ∧ KbC w' w.heap.size (kB rg1) ∧ KsAt w' (some ⟨w.heap.size, 0, none⟩) 1 1 [rg1] ∧ Below w.heap.size w w' := by
  have h1 := Lib.hid (kbc_new w (kB rg1))
  have h2 := Lib.hid (ks_one w rg1)
  have h3 := Lib.hid (box_below w (kB rg1))
  unfold rg1 at h1 h2 h3 ⊢
  dsimp only [kB, kcells] at h1 h2 h3 ⊢
  go_enter Tryz.func32, Tryz.ntmps32
  go_wp2_with fail
  go_ret
  exact ⟨rfl, h1.out, h2.out, h3.out⟩
/-- an append that a guard lets through -/
theorem app_guardedK {ops : Array Oper} {rest : List Oper} {o : Oper} {a : Act} {Q : Exit → Act → World → Prop} (wr : World) (s x : Operand) (vs vx v' : Value) (w' : World) (hw : Region.wanted o (yielded ops a.tmps) = true)
    (ho : o.op = .call { callee := .builtin .append, args := #[s, x], argTypes := #[22, 22] }) (hs : a.eval s = vs) (hx : a.eval x = vx)
    (hrun : (Builtin.append_ #[22, 22] o.type #[vs, vx]).run Tryz.prog wr = .ok v' w') (h : wpList Tryz.prog ops Q rest (a.put o.dst v') w') : wpList Tryz.prog ops Q (o :: rest) a wr := by
  unfold wpList
  rw [if_pos hw]
  left
  unfold Oper.wp execOp
  simp only [ho, resolve, invoke, builtin, Sem.run_bind, Sem.run_pure, Result.andThen_ok, List.map_toArray, List.map_cons, List.map_nil, hs, hx, hrun]
  exact h
/-- both rings, one behind the other -/
theorem two_rings {A B : Nat} {w : World} (h : KsAt w (some ⟨A, 0, none⟩) 1 1 [rg1]) (k : KsAt w (some ⟨B, 0, none⟩) 1 1 [rg1]) :
    ∃ qo qc w', (Builtin.append_ #[22, 22] 22 #[.slice (some ⟨A, 0, none⟩) 1 1, .slice (some ⟨B, 0, none⟩) 1 1]).run Tryz.prog w = .ok (.slice qo 2 qc) w' ∧ KsAt w' qo 2 qc [rg1, rg1] ∧ Below w.heap.size w w' := by
  obtain ⟨i0, hi, hz0, hz1, hz2⟩ := k_parts info_k
  obtain ⟨_, _, e1, h1⟩ := h.2.2.2.1 (by omega)
  cases e1
  obtain ⟨_, _, e2, h2⟩ := k.2.2.2.1 (by omega)
  cases e2
  obtain ⟨v10, w10, hrun, hown10, hg10⟩ := run_append_arg_grows (P := Tryz.prog) w 22 22 31 i0 (.agg #[.string ⟨#[]⟩, .string ⟨#[]⟩, .int .i64 0, .int .i64 0, .int .i64 0, .int .i64 0]) 6 64 Tryz.underlying22 hi hz0 hz1 hz2 rfl (by decide) ⟨A, 0, none⟩ 1 1 (kcs [rg1]) (kcs_len _) (ks_cells h1) ⟨B, 0, none⟩ 1 1 (kcs [rg1]) (kcs_len _) (ks_cells h2) (show 1 < 1 + 1 by decide) (by unfold maxLen; omega) (by omega)
  rw [← kcs_app] at hown10
  obtain ⟨qo, qc, rfl, hq⟩ := ks_of_owns hown10
  exact ⟨qo, qc, w10, hrun, hq, (Below.refl _ _).grown hg10 (Nat.le_refl _) (fun k hk => by cases hk)⟩
theorem sm_rg : ∀ k ∈ [rg1], SmK k := fun k hk => by rw [List.mem_singleton.1 hk]; exact ⟨by decide, by decide⟩
theorem sm_rg2 : ∀ k ∈ [rg1, rg1], SmK k := fun k hk => by
  have : k = rg1 := by simpa using hk
  rw [this]; exact ⟨by decide, by decide⟩
theorem sm_nil : ∀ k ∈ ([] : List Ky), SmK k := fun k hk => by cases hk
/-- what stands at the end of live -/
structure LvS (w : World) (b3 b7 : Nat) (ro : Option Addr) (rc : Nat) (mo : Option Addr) (mc : Nat) (go : Option Addr) (gc : Nat) (V : World) : Prop where
  low : Below w.heap.size w V
  r : KsAt V ro 1 rc [kn1]
  k : KbC V b3 (kB rg1)
  a : KbC V b7 (kB rg1)
  m : KsAt V mo 1 mc [rg1]
  g : WinsAt V go 2 gc [(5, 8), (9, 12)]
theorem LvS.step {w V X : World} {b3 b7 : Nat} {ro mo go : Option Addr} {rc mc gc : Nat} (h : LvS w b3 b7 ro rc mo mc go gc V) (hb : Below V.heap.size V X) : LvS w b3 b7 ro rc mo mc go gc X :=
  ⟨h.low.trans (hb.mono h.low.size), h.r.below hb, h.k.step hb, h.a.step hb, h.m.below hb, h.g.below hb⟩
theorem lv_sg4 (ao : Option Addr) (cap : Nat) (w : World) (h : KsAt w ao 1 cap [rg1]) : Calls Tryz.prog 14 #[.slice ao 1 cap, .int .i64 4] w fun e w' => e = .returned (.tuple #[.agg #[.string ⟨#[107, 49]⟩, .string ⟨#[97, 32, 98]⟩, .int .i64 1, .int .i64 5, .int .i64 0, .int .i64 9], .bool true]) ∧ Below w.heap.size w w' := signing_k ao 1 cap [rg1] 4 (some rg1) w h sm_rg lv_s4
theorem lv_sg5 (ao : Option Addr) (cap : Nat) (w : World) (h : KsAt w ao 1 cap [rg1]) : Calls Tryz.prog 14 #[.slice ao 1 cap, .int .i64 5] w fun e w' => e = .returned (.tuple #[.agg #[.string ⟨#[]⟩, .string ⟨#[]⟩, .int .i64 0, .int .i64 0, .int .i64 0, .int .i64 0], .bool false]) ∧ Below w.heap.size w w' := signing_k ao 1 cap [rg1] 5 none w h sm_rg lv_s5
theorem lv_ac1 (ao : Option Addr) (cap : Nat) (w : World) (h : KsAt w ao 1 cap [rg1]) : Calls Tryz.prog 16 #[.slice ao 1 cap, .string ⟨#[107, 49]⟩, .int .i64 8, .int .i64 0] w fun e w' => e = .returned (.tuple #[.agg #[.string ⟨#[107, 49]⟩, .string ⟨#[97, 32, 98]⟩, .int .i64 1, .int .i64 5, .int .i64 0, .int .i64 9], .int .i64 0]) ∧ Below w.heap.size w w' := accepting_k ao 1 cap [rg1] _ 8 0 0 rg1 w h lv_a1
theorem lv_ac2 (ao : Option Addr) (cap : Nat) (w : World) (h : KsAt w ao 1 cap [rg1]) : Calls Tryz.prog 16 #[.slice ao 1 cap, .string ⟨#[107, 50]⟩, .int .i64 8, .int .i64 0] w fun e w' => e = .returned (.tuple #[.agg #[.string ⟨#[]⟩, .string ⟨#[]⟩, .int .i64 0, .int .i64 0, .int .i64 0, .int .i64 0], .int .i64 26]) ∧ Below w.heap.size w w' := accepting_k ao 1 cap [rg1] _ 8 0 26 kZ w h lv_a2
theorem lv_tx (ao : Option Addr) (cap : Nat) (w : World) (h : KsAt w ao 1 cap [rg1]) (ho : WK w) : Calls Tryz.prog 26 #[.slice ao 1 cap] w fun e w' => e = .returned (.tuple #[.string ⟨#[107, 49, 32, 97, 37, 50, 48, 98, 32, 49, 32, 53, 32, 48, 32, 57, 10]⟩, .int .i64 0]) ∧ Below w.heap.size w w' :=
  text_k ao 1 cap [rg1] tx1 0 w h (fun k hk => by rw [List.mem_singleton.1 hk]; exact ⟨by decide, by decide⟩) ho.io lv_txt
theorem lv_pa (w : World) (ho : WK w) : Calls Tryz.prog 28 #[.string ⟨#[107, 49, 32, 97, 37, 50, 48, 98, 32, 49, 32, 53, 32, 48, 32, 57, 10]⟩] w fun e w' => ∃ bo dap, e = .returned (.tuple #[.slice bo 1 dap, .int .i64 0, .int .i64 0]) ∧ KsAt w' bo 1 dap [rg1] ∧ Below w.heap.size w w' :=
  parse_k tx1 [rg1] 0 0 w (by decide) ho.io ho.mx ho.mx.lt lv_par
def gpL : List Ky := [⟨⟨#[]⟩, ⟨#[]⟩, 0, 5, 0, 0⟩, ⟨⟨#[]⟩, ⟨#[]⟩, 8, 9, 0, 0⟩]
def gpB : Obj := .cells (kcs gpL).toArray 31
theorem gp_at (w : World) : KsAt (w.alloc gpB) (some ⟨w.heap.size, 0, none⟩) 2 2 gpL :=
  ⟨rfl, Nat.le_refl _, by unfold maxLen; omega, fun _ => ⟨w.heap.size, 0, rfl, (kbc_new w gpB).big, fun j hj k hk => by
    have hj : j < 2 := hj
    have hc := kcs_at gpL j k hj hk
    rw [Nat.zero_add]
    obtain ⟨u, hu⟩ : ∃ u, (kcells (kA gpL j))[k]? = some u := ⟨_, List.getElem?_eq_getElem (by rw [kcells_len]; exact hk)⟩
    rw [hu] at hc ⊢
    exact (kbc_new w gpB).cell (by rw [← Array.getElem?_toList]; exact hc)⟩, fun e => by cases e⟩
theorem lv_gp (ao : Option Addr) (cap : Nat) (w : World) (h : KsAt w ao 2 cap gpL) : Calls Tryz.prog 30 #[.slice ao 2 cap, .agg #[.int .i64 3, .int .i64 12]] w fun e w' => ∃ bo dap, e = .returned (.slice bo 2 dap) ∧ WinsAt w' bo 2 dap [(5, 8), (9, 12)] ∧ Below w.heap.size w w' := gaps_k ao 2 cap gpL 3 12 _ w h (by decide) lv_gap
end Go.Proofs.YtgepcbggkfjlgaaGreatDoor
end

section
/-
  The contract of the laws' live: the chapter's examples. Condition: the tables of strconv and strings lie as they should.
-/
set_option maxRecDepth 100000
set_option linter.unusedVariables false
set_option linter.unusedSimpArgs false
set_option linter.unnecessarySimpa false
namespace Go.Proofs.YtgepcbggkfjlgaaGreatDoor
open Go.RowKit Go.PlainAid

set_option maxHeartbeats 16000000 in
theorem live_s (w : World) (ho : WK w) :
    Calls Tryz.prog 11 #[] w fun e w' => e = .returned (.bool true) ∧ Below w.heap.size w w' := by
  have HO := Lib.hid ho
  clear ho
  go_enter Tryz.func11, Tryz.ntmps11
  go_wp2_with fail
  refine (rotate_k none 0 0 [] [kn1] ⟨#[110]⟩ ⟨#[115]⟩ 100 50 10 0 _ (ks_nil _) sm_nil (by decide) (by decide) lv_rot).mono ?_
  rintro e w1 ⟨ro, rc, rfl, hr, hb⟩
  have HB := Lib.hid hb
  have HR := Lib.hid hr
  have hrc : 1 ≤ rc := hr.2.1
  have hrc2 := hr.2.2.1
  unfold maxLen at hrc2
  clear hb hr
  go_wp2_with fail
  refine (ring_k _).mono ?_
  rintro e w2 ⟨rfl, -, hk, hb⟩
  have HB := Lib.hid (HB.out.trans (hb.mono HB.out.size))
  have HR := Lib.hid (HR.out.below hb)
  try rw [World.size_alloc] at hk
  have HG := Lib.hid hk
  clear hb hk
  go_wp2_with fail
  refine (lv_sg4 _ 1 _ HG.out).mono ?_
  rintro e w3 ⟨rfl, hb⟩
  have HB := Lib.hid (HB.out.trans (hb.mono HB.out.size))
  have HR := Lib.hid (HR.out.below hb)
  clear hb HG
  have hb := box_below w3 (.cells #[.string ⟨#[107, 49]⟩, .string ⟨#[97, 32, 98]⟩, .int .i64 1, .int .i64 5, .int .i64 0, .int .i64 9] 31)
  have HB := Lib.hid (HB.out.trans (hb.mono HB.out.size))
  have HR := Lib.hid (HR.out.below hb)
  clear hb
  have HK : Hid (KbC (w3.alloc (.cells #[.string ⟨#[107, 49]⟩, .string ⟨#[97, 32, 98]⟩, .int .i64 1, .int .i64 5, .int .i64 0, .int .i64 9] 31)) w3.heap.size (.cells #[.string ⟨#[107, 49]⟩, .string ⟨#[97, 32, 98]⟩, .int .i64 1, .int .i64 5, .int .i64 0, .int .i64 9] 31)) := Lib.hid (kbc_new w3 _)
  go_wp2_with fail
  refine (ring_k _).mono ?_
  rintro e w4 ⟨rfl, -, hk, hb⟩
  have HB := Lib.hid (HB.out.trans (hb.mono HB.out.size))
  have HR := Lib.hid (HR.out.below hb)
  have HK := Lib.hid (HK.out.step hb)
  try rw [World.size_alloc] at hk
  have HG := Lib.hid hk
  clear hb hk
  go_wp2_with fail
  refine (lv_sg5 _ 1 _ HG.out).mono ?_
  rintro e w5 ⟨rfl, hb⟩
  have HB := Lib.hid (HB.out.trans (hb.mono HB.out.size))
  have HR := Lib.hid (HR.out.below hb)
  have HK := Lib.hid (HK.out.step hb)
  clear hb HG
  have hb := box_below w5 (.cells #[.string ⟨#[]⟩, .string ⟨#[]⟩, .int .i64 0, .int .i64 0, .int .i64 0, .int .i64 0] 31)
  have HB := Lib.hid (HB.out.trans (hb.mono HB.out.size))
  have HR := Lib.hid (HR.out.below hb)
  have HK := Lib.hid (HK.out.step hb)
  clear hb
  go_wp2_with fail
  refine (ring_k _).mono ?_
  rintro e w6 ⟨rfl, -, hk, hb⟩
  have HB := Lib.hid (HB.out.trans (hb.mono HB.out.size))
  have HR := Lib.hid (HR.out.below hb)
  have HK := Lib.hid (HK.out.step hb)
  try rw [World.size_alloc] at hk
  have HG := Lib.hid hk
  clear hb hk
  go_wp2_with fail
  refine (lv_ac1 _ 1 _ HG.out).mono ?_
  rintro e w7 ⟨rfl, hb⟩
  have HB := Lib.hid (HB.out.trans (hb.mono HB.out.size))
  have HR := Lib.hid (HR.out.below hb)
  have HK := Lib.hid (HK.out.step hb)
  clear hb HG
  have hb := box_below w7 (.cells #[.string ⟨#[107, 49]⟩, .string ⟨#[97, 32, 98]⟩, .int .i64 1, .int .i64 5, .int .i64 0, .int .i64 9] 31)
  have HB := Lib.hid (HB.out.trans (hb.mono HB.out.size))
  have HR := Lib.hid (HR.out.below hb)
  have HK := Lib.hid (HK.out.step hb)
  clear hb
  have HA : Hid (KbC (w7.alloc (.cells #[.string ⟨#[107, 49]⟩, .string ⟨#[97, 32, 98]⟩, .int .i64 1, .int .i64 5, .int .i64 0, .int .i64 9] 31)) w7.heap.size (.cells #[.string ⟨#[107, 49]⟩, .string ⟨#[97, 32, 98]⟩, .int .i64 1, .int .i64 5, .int .i64 0, .int .i64 9] 31)) := Lib.hid (kbc_new w7 _)
  go_wp2_with fail
  refine (ring_k _).mono ?_
  rintro e w8 ⟨rfl, -, hk, hb⟩
  have HB := Lib.hid (HB.out.trans (hb.mono HB.out.size))
  have HR := Lib.hid (HR.out.below hb)
  have HK := Lib.hid (HK.out.step hb)
  have HA := Lib.hid (HA.out.step hb)
  try rw [World.size_alloc] at hk
  have HG := Lib.hid hk
  clear hb hk
  go_wp2_with fail
  refine (lv_ac2 _ 1 _ HG.out).mono ?_
  rintro e w9 ⟨rfl, hb⟩
  have HB := Lib.hid (HB.out.trans (hb.mono HB.out.size))
  have HR := Lib.hid (HR.out.below hb)
  have HK := Lib.hid (HK.out.step hb)
  have HA := Lib.hid (HA.out.step hb)
  clear hb HG
  have hb := box_below w9 (.cells #[.string ⟨#[]⟩, .string ⟨#[]⟩, .int .i64 0, .int .i64 0, .int .i64 0, .int .i64 0] 31)
  have HB := Lib.hid (HB.out.trans (hb.mono HB.out.size))
  have HR := Lib.hid (HR.out.below hb)
  have HK := Lib.hid (HK.out.step hb)
  have HA := Lib.hid (HA.out.step hb)
  clear hb
  go_wp2_with fail
  refine (ring_k _).mono ?_
  rintro e w10 ⟨rfl, -, hk, hb⟩
  have HB := Lib.hid (HB.out.trans (hb.mono HB.out.size))
  have HR := Lib.hid (HR.out.below hb)
  have HK := Lib.hid (HK.out.step hb)
  have HA := Lib.hid (HA.out.step hb)
  try rw [World.size_alloc] at hk
  have HG := Lib.hid hk
  clear hb hk
  go_wp2_with fail
  refine (lv_tx _ 1 _ HG.out (HO.out.below HB.out)).mono ?_
  rintro e w11 ⟨rfl, hb⟩
  have HB := Lib.hid (HB.out.trans (hb.mono HB.out.size))
  have HR := Lib.hid (HR.out.below hb)
  have HK := Lib.hid (HK.out.step hb)
  have HA := Lib.hid (HA.out.step hb)
  clear hb HG
  go_wp2_with fail
  refine (lv_pa _ (HO.out.below HB.out)).mono ?_
  rintro e w12 ⟨mo, mc, rfl, hm, hb⟩
  have HB := Lib.hid (HB.out.trans (hb.mono HB.out.size))
  have HR := Lib.hid (HR.out.below hb)
  have HK := Lib.hid (HK.out.step hb)
  have HA := Lib.hid (HA.out.step hb)
  have HM := Lib.hid hm
  have hmc : 1 ≤ mc := hm.2.1
  have hmc2 := hm.2.2.1
  unfold maxLen at hmc2
  clear hb hm
  have hg := gp_at w12
  have HG : Hid (KsAt (w12.alloc (.cells #[.string ⟨#[]⟩, .string ⟨#[]⟩, .int .i64 0, .int .i64 5, .int .i64 0, .int .i64 0, .string ⟨#[]⟩, .string ⟨#[]⟩, .int .i64 8, .int .i64 9, .int .i64 0, .int .i64 0] 31)) (some ⟨w12.heap.size, 0, none⟩) 2 2 gpL) := Lib.hid hg
  clear hg
  have hb := box_below w12 (.cells #[.string ⟨#[]⟩, .string ⟨#[]⟩, .int .i64 0, .int .i64 5, .int .i64 0, .int .i64 0, .string ⟨#[]⟩, .string ⟨#[]⟩, .int .i64 8, .int .i64 9, .int .i64 0, .int .i64 0] 31)
  have HB := Lib.hid (HB.out.trans (hb.mono HB.out.size))
  have HR := Lib.hid (HR.out.below hb)
  have HK := Lib.hid (HK.out.step hb)
  have HA := Lib.hid (HA.out.step hb)
  have HM := Lib.hid (HM.out.below hb)
  clear hb
  go_wp2_with fail
  refine (lv_gp _ 2 _ HG.out).mono ?_
  rintro e w13 ⟨po, pc, rfl, hp, hb⟩
  have HB := Lib.hid (HB.out.trans (hb.mono HB.out.size))
  have HR := Lib.hid (HR.out.below hb)
  have HK := Lib.hid (HK.out.step hb)
  have HA := Lib.hid (HA.out.step hb)
  have HM := Lib.hid (HM.out.below hb)
  have HP := Lib.hid hp
  have hpc : 2 ≤ pc := hp.2.1
  have hpc2 := hp.2.2.1
  unfold maxLen at hpc2
  clear hb hp HG
  obtain ⟨rb, rof, rfl, hir⟩ := HR.out.2.2.2.1 (by show 0 < 1; omega)
  have hat := hir.at_ (j := 0) (by decide)
  rw [Nat.zero_mul, Nat.add_zero] at hat
  obtain ⟨-, -, r2, r3, r4, r5⟩ := hat
  dsimp only [kn1, kA, List.getD_cons_zero] at r2 r3 r4 r5
  have k0 := HK.out.cell (i := 0) (v := .string ⟨#[107, 49]⟩) rfl
  have a0 := HA.out.cell (i := 0) (v := .string ⟨#[107, 49]⟩) rfl
  obtain ⟨pb, pof, rfl, hip⟩ := HP.out.2.2.2 (by omega)
  clear hir
  have hip := Lib.hid hip
  go_wp2_with fail
  refine (ring_k _).mono ?_
  rintro e w14 ⟨rfl, -, hk, hb⟩
  have HB := Lib.hid (HB.out.trans (hb.mono HB.out.size))
  have HM := Lib.hid (HM.out.below hb)
  have HP := Lib.hid (HP.out.below hb)
  try rw [World.size_alloc] at hk
  have HG := Lib.hid hk
  clear hb hk
  go_wp2_with fail
  refine (same_k mo 1 mc [rg1] _ 1 1 [rg1] true _ HM.out HG.out (decide_eq_true rfl)).mono ?_
  rintro e w15 ⟨rfl, hb⟩
  have HB := Lib.hid (HB.out.trans (hb.mono HB.out.size))
  have HM := Lib.hid (HM.out.below hb)
  have HP := Lib.hid (HP.out.below hb)
  obtain ⟨_, _, e8, hip2⟩ := HP.out.2.2.2 (by omega)
  cases e8
  have p0 := hip2.2 0 (by decide)
  have p1 := hip2.2 1 (by decide)
  rw [Nat.zero_mul, Nat.add_zero] at p0
  rw [Nat.one_mul] at p1
  dsimp only [wnAt, List.getD_cons_zero, List.getD_cons_succ] at p0 p1
  obtain ⟨p00, p01⟩ := p0
  obtain ⟨p10, p11⟩ := p1
  clear hip2
  clear hb
  go_wp2_with fail
  refine (ring_k _).mono ?_
  rintro e w16 ⟨rfl, -, hk, hb⟩
  have HB := Lib.hid (HB.out.trans (hb.mono HB.out.size))
  have HM := Lib.hid (HM.out.below hb)
  have HP := Lib.hid (HP.out.below hb)
  try rw [World.size_alloc] at hk
  have HG := Lib.hid hk
  clear p00 p01 p10 p11
  clear hb hk
  go_wp2_with fail
  refine (prune_k _ 1 1 [rg1] [] 9 _ HG.out (by omega) lv_p9).mono ?_
  rintro e w17 ⟨zo, zc, rfl, -, hb⟩
  have HB := Lib.hid (HB.out.trans (hb.mono HB.out.size))
  clear hb
  go_wp2_with fail
  refine (ring_k _).mono ?_
  rintro e w18 ⟨rfl, -, hk, hb⟩
  have HB := Lib.hid (HB.out.trans (hb.mono HB.out.size))
  try rw [World.size_alloc] at hk
  have HG := Lib.hid hk
  clear hb hk
  go_wp2_with fail
  refine (prune_k _ 1 1 [rg1] [rg1] 8 _ HG.out (by omega) lv_p8).mono ?_
  rintro e w19 ⟨yo, yc, rfl, -, hb⟩
  have HB := Lib.hid (HB.out.trans (hb.mono HB.out.size))
  clear hb
  go_wp2_with fail
  refine (ring_k _).mono ?_
  rintro e w20 ⟨rfl, -, hk, hb⟩
  have HB := Lib.hid (HB.out.trans (hb.mono HB.out.size))
  try rw [World.size_alloc] at hk
  have HG := Lib.hid hk
  clear hb hk
  go_wp2_with fail
  refine (check_k _ 1 1 [rg1] 0 _ HG.out sm_rg lv_ck).mono ?_
  rintro e w21 ⟨rfl, hb⟩
  have HB := Lib.hid (HB.out.trans (hb.mono HB.out.size))
  clear hb
  go_wp2_with fail
  refine (ring_k _).mono ?_
  rintro e w22 ⟨rfl, -, hk, hb⟩
  have HB := Lib.hid (HB.out.trans (hb.mono HB.out.size))
  try rw [World.size_alloc] at hk
  have HG := Lib.hid hk
  clear hb hk
  go_wp2_with fail
  refine (ring_k _).mono ?_
  rintro e w23 ⟨rfl, -, hk, hb⟩
  have HB := Lib.hid (HB.out.trans (hb.mono HB.out.size))
  have HG := Lib.hid (HG.out.below hb)
  clear hb
  obtain ⟨qo, qc, wq, hrun, hq, hbq⟩ := two_rings HG.out hk
  have HRN := Lib.hid hrun
  have HQ := Lib.hid hq
  have HB := Lib.hid (HB.out.trans (hbq.mono HB.out.size))
  clear hrun hq hbq hk
  go_wp2_with (at_builtin; go_must (refine app_guardedK _ (.tmp 164) (.tmp 165) _ _ _ _ ?_ ?_ ?_ ?_ HRN.out ?_; exact rfl; exact rfl; exact rfl; exact rfl))
  refine (check_k qo 2 qc [rg1, rg1] 7 _ HQ.out sm_rg2 lv_ck2).mono ?_
  rintro e w24 ⟨rfl, hb⟩
  have HB := Lib.hid (HB.out.trans (hb.mono HB.out.size))
  clear hb
  go_wp2_with fail
  go_ret
  exact ⟨rfl, HB.out⟩
end Go.Proofs.YtgepcbggkfjlgaaGreatDoor
end

section
/-
  What the keys laws share: the variables lie as the contracts ask. No condition.
-/
set_option linter.unusedVariables false
set_option linter.unusedSimpArgs false
set_option linter.unnecessarySimpa false
namespace Go.Proofs.YtgepcbggkfjlgaaGreatDoor
open Go.ChangeShapes Go.WideShapes Go.ChangeAt Go.RowKit Go.PlainAid

theorem star : "*" ++ "errors.errorString" = "*errors.errorString" := by decide
theorem tp_row (u : TypeId) (h : Tryz.prog.typeName? 3 u = some "*errors.errorString") : u = 178 :=
  typeName_ptr_named (nm := "errors.errorString") (by rw [star]; kernel_rfl) (by kernel_rfl) (by decide) u (by rw [star]; exact h)
theorem wk_of {W : World} (hL : laidMetH Tryz.prog [("math/bits.deBruijn32tab", Rows.laid_math_bits_deBruijn32tab), ("math/bits.deBruijn64tab", Rows.laid_math_bits_deBruijn64tab), ("internal/strconv.uint64pow10", Rows.laid_internal_strconv_uint64pow10), ("unicode/utf8.acceptRanges", Rows.laid_unicode_utf8_acceptRanges), ("strconv.ErrRange", Rows.laid_strconv_ErrRange), ("strconv.ErrSyntax", Rows.laid_strconv_ErrSyntax), ("unicode/utf8.first", Rows.laid_unicode_utf8_first)] W)
    (hsh : W.ShapedOpen Tryz.prog) : WK W := by
  rw [MakeChecks.laidMetH_plain _ _ _ (by kernel_rfl)] at hL
  refine ⟨⟨?_, ?_⟩, max_ok hsh⟩
  · exact Lib.tabIs_of_head (g := 1) (by kernel_rfl) (by kernel_rfl) Tryz.underlying162 Tryz.underlying145 (by kernel_rfl) (by kernel_rfl) hL.tail.tail
  · obtain ⟨a, s, h, _⟩ := laid_sentinel hL.tail.tail.tail.tail (g := 5) (by kernel_rfl) (by kernel_rfl) Tryz.underlying69 tp_row Tryz.underlying178 Tryz.underlying180 rfl rfl Tryz.underlying9 (by kernel_rfl) (by kernel_rfl)
    exact ⟨_, _, h⟩
theorem int_range {n : Int} (h : (Lit.int .i64 n).wf = true) : -9223372036854775808 ≤ n ∧ n ≤ 9223372036854775807 := by
  unfold Lit.wf at h
  rw [Bool.and_eq_true, decide_eq_true_iff, decide_eq_true_iff] at h
  exact h
theorem cells_win : Tryz.prog.cellsOf 29 = 2 := by kernel_rfl
set_option maxRecDepth 100000 in
/-- a window that came in -/
theorem open_win {H : Type} {enc : TypeId × Value → H} {W : World} {base : Nat} {v : Value} {d : DataW H} {p : List MemPlace} (hval : Value.okWide Tryz.prog W .any base 29 v)
    (h0 : DataW.Trod enc Tryz.prog W 0 (fun _ => true) true 29 v d p) : ∃ u : Wn, v = .agg #[.int .i64 u.1, .int .i64 u.2] := by
  obtain ⟨v0, v1, y0, y1, n, rfl, _, _, h1, h2⟩ := Go.Joins.open_agg2 Tryz.underlying29 (by kernel_rfl) cells_win hval h0
  obtain ⟨a, ha, _⟩ := DataW.trod_int Tryz.underlying3 h1
  obtain ⟨b, hb, _⟩ := DataW.trod_int Tryz.underlying3 h2
  simp only [List.cons.injEq, and_true] at ha hb
  rw [ha, hb]
  exact ⟨(a, b), rfl⟩
theorem beq_i (x : Int) : (x == x) = true := beq_self_eq_true _
theorem bne_i (x : Int) : (x != x) = false := bne_self_eq_false _
theorem bne_b (x : Bool) : (x != x) = false := bne_self_eq_false _
theorem beq_s (x : ByteArray) : (x.toList == x.toList) = true := beq_self_eq_true _
theorem bne_s (x : ByteArray) : (x.toList != x.toList) = false := bne_self_eq_false _
theorem sm_of {l : List Ky} {m : Int} (h : greatB l m = false) : ∀ k ∈ l, SmK k := fun k hk => ⟨Nat.le_trans ((great_no h).2 k hk).1 (by omega), Nat.le_trans ((great_no h).2 k hk).2 (by omega)⟩
theorem in_q (a b t : Int) (r : Bool) (w : World) (h : inW a b t = r) :
    Calls Tryz.prog 18 #[.agg #[.int .i64 a, .int .i64 b], .int .i64 t] w fun e w' => e = .returned (.bool r) ∧ Below w.heap.size w w' := by subst h; exact in_s a b t w
end Go.Proofs.YtgepcbggkfjlgaaGreatDoor
end
