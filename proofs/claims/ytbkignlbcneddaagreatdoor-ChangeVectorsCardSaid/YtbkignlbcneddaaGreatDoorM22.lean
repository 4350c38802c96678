/-
  Texts of the schema layer and of those beneath it, joined: ChgR2, ChgRe, ChgAe. Conditions stand at each contract.
-/
import Derived.Test.YtbkignlbcneddaaGreatDoorM08
import Derived.Test.YtbkignlbcneddaaGreatDoorM12
import Derived.Test.YtbkignlbcneddaaGreatDoorM13
import Derived.Test.YtbkignlbcneddaaGreatDoorM14
import Derived.Test.YtbkignlbcneddaaGreatDoorM15
import Derived.Test.YtbkignlbcneddaaGreatDoorM18
import Derived.Test.YtbkignlbcneddaaGreatDoorM20
import Derived.Test.YtbkignlbcneddaaGreatDoorM21
set_option linter.unusedVariables false
set_option linter.unusedSimpArgs false
set_option linter.unnecessarySimpa false

section
/-
  Contracts of change's readWords and Parse. Conditions: words of at most 1000000 bytes, at most 1100001 of them; a text of at most 1000000 bytes.
-/
set_option maxRecDepth 100000
namespace Go.Proofs.YtbkignlbcneddaaGreatDoor
open Go.RowKit Go.PlainAid
open Csn (Cn cnV cnB KbC kbc_new box_below box_lt parEC parVC vldC fmtS TzOk)
set_option maxHeartbeats 4000000 in
theorem readWordsF_s (ao : Option Addr) (n cap : Nat) (ws : List ByteArray) (w : World) (h : StrsAt w ao n cap ws) (h3 : n < 3) :
    Calls Tryz.prog 46 #[.slice ao n cap] w fun e w' => e = .returned (.tuple #[chV ((recG ws).getD zeroG), .bool (recG ws).isSome]) ∧ Below w.heap.size w w' := by
  have HR := Lib.hid (rec_few (ws := ws) (by rw [h.1]; exact h3))
  have HK := Lib.hid (kbc_new w (chB zeroG))
  have HB := Lib.hid (box_below w (chB zeroG))
  rw [zero_is] at HK HB
  have d3 : (n : Int) < 3 := by omega
  clear h
  go_enter Tryz.func46, Tryz.ntmps46
  go_wp2_with fail
  try simp only [Exit.inBlock, Exit.then]
  refine bodyPost_ret (readWords_results _ _ _ _ _ rfl HK.out rfl) rfl ?_
  exact ⟨by rw [HR.out]; rfl, HB.out⟩
theorem readWords_s (ao : Option Addr) (n cap : Nat) (ws : List ByteArray) (w : World) (h : StrsAt w ao n cap ws) (hn : n ≤ 1100001) (hz : ∀ s ∈ ws, s.size ≤ 1000000) (ho : COk w) :
    Calls Tryz.prog 46 #[.slice ao n cap] w fun e w' => e = .returned (.tuple #[chV ((recG ws).getD zeroG), .bool (recG ws).isSome]) ∧ Below w.heap.size w w' := by
  rcases Nat.lt_or_ge n 3 with h3 | h3
  · exact readWordsF_s ao n cap ws w h h3
  · cases hN : useN (opW (partAt ws 0))
    · cases hV : useV (opW (partAt ws 0))
      · exact readWords0_s ao n cap ws w h h3 hn hz ho hN hV
      · exact readWordsV_s ao n cap ws w h h3 hn hz ho hV
    · exact readWordsN_s ao n cap ws w h h3 hn hz ho hN
theorem readWords_k (g : Chg) (b : Bool) (ao : Option Addr) (n cap : Nat) (ws : List ByteArray) (w : World) (h : StrsAt w ao n cap ws) (hn : n ≤ 1100001) (hz : ∀ s ∈ ws, s.size ≤ 1000000) (ho : COk w) (hg : (recG ws).getD zeroG = g) (hb : (recG ws).isSome = b) :
    Calls Tryz.prog 46 #[.slice ao n cap] w fun e w' => e = .returned (.tuple #[chV g, .bool b]) ∧ Below w.heap.size w w' := by subst hg hb; exact readWords_s ao n cap ws w h hn hz ho
theorem uns_size (s : ByteArray) : (unS s).size ≤ s.size := by
  unfold unS
  cases e : unesc s.data.toList with
  | none => exact Nat.zero_le _
  | some x =>
    have h1 := unesc_le _ _ e
    rw [show s.data.toList.length = s.size from Array.length_toList] at h1
    show (⟨x.toArray⟩ : ByteArray).size ≤ _
    rw [Lib.size_mk]; exact h1
theorem rec_small {ws : List ByteArray} {g : Chg} (h : recG ws = some g) {z : Nat} (hz : ∀ s ∈ ws, s.size ≤ z) : g.id.size ≤ z ∧ g.nm.size ≤ z ∧ g.ak.size ≤ z ∧ g.vl.size ≤ z := by
  have h0 : nilS.size ≤ z := Nat.zero_le _
  match ws, h, hz with
  | a :: b :: i :: r, h, hz =>
    have hi := hz i (by simp)
    unfold recG at h
    simp only at h
    by_cases hp : parEC b.data.toList = 0
    · rw [if_neg (fun k => k hp)] at h
      match r, h, hz with
      | [], h, hz => simp only at h; split at h <;> cases h; exact ⟨hi, h0, h0, h0⟩
      | [x], h, hz => simp only at h; split at h <;> cases h; exact ⟨hi, Nat.le_trans (uns_size x) (hz x (by simp)), h0, h0⟩
      | [x, y], h, hz => simp only at h; split at h <;> cases h; exact ⟨hi, h0, Nat.le_trans (uns_size x) (hz x (by simp)), Nat.le_trans (uns_size y) (hz y (by simp))⟩
      | _ :: _ :: _ :: _, h, hz => cases h
    · rw [if_pos hp] at h; cases h
theorem rec_sm {ws : List ByteArray} (hz : ∀ s ∈ ws, s.size ≤ 1000000) : SmG ((recG ws).getD zeroG) := by
  cases e : recG ws with
  | none => exact ⟨Nat.zero_le _, Nat.zero_le _, Nat.zero_le _, Nat.zero_le _⟩
  | some g => have := rec_small e hz; exact ⟨this.1, this.2.1, this.2.2.1, this.2.2.2⟩
theorem parse_results (tmps : Array Value) (b : Nat) (cs : Array Value) (t : TypeId) (W : World) (hp : tmps.getD 2 undef = .pointer (some ⟨b, 0, none⟩)) (h : KbC W b (.cells cs t)) (h8 : cs.size = 8) :
    (results Tryz.f15 tmps).run Tryz.prog W = .ok (.tuple #[.agg cs, tmps.getD 3 undef]) W := by
  rw [results_cell_tmp rfl, hp]
  have hl := run_loadVar_row (P := Tryz.prog) W b t 26 cs (0, 0) _ h (by rfl) (by rfl) (by rw [h8]; rfl)
  simp [asAddr, Result.andThen, hl]
/-- what Parse returns -/
theorem par_no {s : ByteArray} (h : (recG (partsB 32 s)).isSome = false) : parG s = none := by
  unfold parG
  cases e : recG (partsB 32 s) with
  | none => rfl
  | some g => rw [e] at h; cases h
theorem par_bad {s : ByteArray} (h : chkG ((recG (partsB 32 s)).getD zeroG) ≠ 0) : parG s = none := by
  unfold parG
  cases e : recG (partsB 32 s) with
  | none => rfl
  | some g => rw [e] at h; exact if_neg h
theorem par_yes {s : ByteArray} (h : (recG (partsB 32 s)).isSome = true) (hc : chkG ((recG (partsB 32 s)).getD zeroG) = 0) : parG s = some ((recG (partsB 32 s)).getD zeroG) := by
  unfold parG
  cases e : recG (partsB 32 s) with
  | none => rw [e] at h; cases h
  | some g => rw [e] at hc; exact if_pos hc
def parE (s : ByteArray) : Int := if (parG s).isSome then 0 else 4
/-- what is kept while a line is read: the result's box, how far the world has gone, the variables -/
structure PaP (w : World) (b2 : Nat) (W : World) : Prop where
  low : Below w.heap.size w W
  res : KbC W b2 (chB zeroG)
  ok : COk W
theorem PaP.step {w W X : World} {b2 : Nat} (h : PaP w b2 W) (hb : Below W.heap.size W X) : PaP w b2 X := ⟨h.low.trans (hb.mono h.low.size), Csn.KbC.step h.res hb, h.ok.step hb⟩
set_option maxHeartbeats 16000000 in
theorem parse_s (s : ByteArray) (w : World) (hs : s.size ≤ 1000000) (ho : COk w) :
    Calls Tryz.prog 15 #[.string s] w fun e w' => e = .returned (.tuple #[chV ((parG s).getD zeroG), .int .i64 (parE s)]) ∧ Below w.heap.size w w' := by
  have HP := Lib.hid (show PaP w w.heap.size (w.alloc (chB zeroG)) from ⟨box_below w _, kbc_new w _, ho.step (box_below w _)⟩)
  have HS := Lib.hid hs
  have HZ := Lib.hid (show ∀ x ∈ partsB 32 s, x.size ≤ 1000000 from fun x hx => Nat.le_trans (partsB_small hx) hs)
  have HN := Lib.hid (show (partsB 32 s).length ≤ 1100001 from by have := partsB_le 32 s; omega)
  obtain ⟨g, hg⟩ : ∃ x, (recG (partsB 32 s)).getD zeroG = x := ⟨_, rfl⟩
  obtain ⟨y, hy⟩ : ∃ x, (recG (partsB 32 s)).isSome = x := ⟨_, rfl⟩
  have HM := Lib.hid (show SmG g from by rw [← hg]; exact rec_sm HZ.out)
  have HG := Lib.hid (And.intro hg hy)
  clear hs ho hg hy
  rw [zero_is] at HP
  go_enter Tryz.func15, Tryz.ntmps15
  go_wp2_with fail
  have hx : Hid (PaP w w.heap.size (w.alloc (.cells #[.int .i64 0, .int .i64 0, .int .i64 0, .int .i64 0, .string ⟨#[]⟩, .string ⟨#[]⟩, .string ⟨#[]⟩, .string ⟨#[]⟩] 26))) := HP
  clear HP
  generalize w.alloc (.cells #[.int .i64 0, .int .i64 0, .int .i64 0, .int .i64 0, .string ⟨#[]⟩, .string ⟨#[]⟩, .string ⟨#[]⟩, .string ⟨#[]⟩] 26) = W0 at hx ⊢
  have HP := hx
  clear hx
  refine (splitF_s 32 s W0 (Nat.le_trans HS.out (by decide)) HP.out.ok.mx).mono ?_
  rintro e w1 ⟨rfl, hst, hb⟩
  have HP := Lib.hid (HP.out.step hb)
  have HSt := Lib.hid hst
  clear hb hst
  go_wp2_with fail
  refine (readWords_k g y _ _ _ _ w1 HSt.out HN.out HZ.out HP.out.ok HG.out.1 HG.out.2).mono ?_
  rintro e w2 ⟨rfl, hb⟩
  have HP := Lib.hid (HP.out.step hb)
  clear hb
  obtain ⟨⟨ca, cb, cc⟩, o, i, nm, ak, vl⟩ := g
  rw [chV_is]
  have HB4 := Lib.hid (box_below w2 (chB ⟨(ca, cb, cc), o, i, nm, ak, vl⟩))
  have HK4 := Lib.hid (kbc_new w2 (chB ⟨(ca, cb, cc), o, i, nm, ak, vl⟩))
  rw [chB_is] at HB4 HK4
  have HL := Lib.hid (Csn.KbC.big HP.out.res)
  have HP4 := Lib.hid (HP.out.step HB4.out)
  cases y
  · have HE := Lib.hid (show parG s = none ∧ parE s = 4 from by have := par_no HG.out.2; exact ⟨this, by unfold parE; rw [this]; rfl⟩)
    have gf : ∀ j, (w2.alloc (.cells #[.int .i64 ca, .int .i64 cb, .int .i64 cc, .int .i64 o, .string i, .string nm, .string ak, .string vl] 26)).frozen? ⟨w.heap.size, j, none⟩ = false := fun j => Csn.KbC.frz HP4.out.res
    have HG8 : Hid (KbC (w2.alloc (.cells #[.int .i64 ca, .int .i64 cb, .int .i64 cc, .int .i64 o, .string i, .string nm, .string ak, .string vl] 26)) w.heap.size (.cells #[.int .i64 0, .int .i64 0, .int .i64 0, .int .i64 0, .string ⟨#[]⟩, .string ⟨#[]⟩, .string ⟨#[]⟩, .string ⟨#[]⟩] 26)) := Lib.hid (zero_is ▸ HP4.out.res)
    have g0 := Csn.KbC.cell (i := 0) HG8.out rfl
    have g1 := Csn.KbC.cell (i := 1) HG8.out rfl
    have g2 := Csn.KbC.cell (i := 2) HG8.out rfl
    have g3 := Csn.KbC.cell (i := 3) HG8.out rfl
    have g4 := Csn.KbC.cell (i := 4) HG8.out rfl
    have g5 := Csn.KbC.cell (i := 5) HG8.out rfl
    have g6 := Csn.KbC.cell (i := 6) HG8.out rfl
    have g7 := Csn.KbC.cell (i := 7) HG8.out rfl
    go_wp2_with fail
    try simp only [Exit.inBlock, Exit.then]
    refine bodyPost_ret (parse_results _ _ _ _ _ rfl (kbc_set8 HG8.out) rfl) rfl ?_
    exact ⟨by rw [HE.out.1, HE.out.2]; rfl, below_set8 HP4.out.low (Nat.le_refl _) _ _ _ _ _ _ _ _⟩
  · obtain ⟨cz, hcz⟩ : ∃ x, chkG ⟨(ca, cb, cc), o, i, nm, ak, vl⟩ = x := ⟨_, rfl⟩
    have HCk := Lib.hid (fun V (hV : MaxOk V) => chkg_s ⟨(ca, cb, cc), o, i, nm, ak, vl⟩ V HM.out hV)
    rw [hcz, chV_is] at HCk
    have HCz := Lib.hid hcz
    clear hcz
    have c0 := Csn.KbC.cell (i := 0) HK4.out rfl
    have c1 := Csn.KbC.cell (i := 1) HK4.out rfl
    have c2 := Csn.KbC.cell (i := 2) HK4.out rfl
    have c3 := Csn.KbC.cell (i := 3) HK4.out rfl
    have c4 := Csn.KbC.cell (i := 4) HK4.out rfl
    have c5 := Csn.KbC.cell (i := 5) HK4.out rfl
    have c6 := Csn.KbC.cell (i := 6) HK4.out rfl
    have c7 := Csn.KbC.cell (i := 7) HK4.out rfl
    go_wp2_with fail
    clear c0 c1 c2 c3 c4 c5 c6 c7
    generalize w2.alloc (.cells #[.int .i64 ca, .int .i64 cb, .int .i64 cc, .int .i64 o, .string i, .string nm, .string ak, .string vl] 26) = W4 at HP4 HK4 HB4 ⊢
    refine (HCk.out W4 HP4.out.ok.mx).mono ?_
    rintro e w3 ⟨rfl, hb⟩
    have HP5 := Lib.hid (HP4.out.step hb)
    have HK5 := Lib.hid (Csn.KbC.step HK4.out hb)
    clear hb
    have gf : ∀ j, (w3).frozen? ⟨w.heap.size, j, none⟩ = false := fun j => Csn.KbC.frz HP5.out.res
    have HG8 : Hid (KbC (w3) w.heap.size (.cells #[.int .i64 0, .int .i64 0, .int .i64 0, .int .i64 0, .string ⟨#[]⟩, .string ⟨#[]⟩, .string ⟨#[]⟩, .string ⟨#[]⟩] 26)) := Lib.hid (zero_is ▸ HP5.out.res)
    have g0 := Csn.KbC.cell (i := 0) HG8.out rfl
    have g1 := Csn.KbC.cell (i := 1) HG8.out rfl
    have g2 := Csn.KbC.cell (i := 2) HG8.out rfl
    have g3 := Csn.KbC.cell (i := 3) HG8.out rfl
    have g4 := Csn.KbC.cell (i := 4) HG8.out rfl
    have g5 := Csn.KbC.cell (i := 5) HG8.out rfl
    have g6 := Csn.KbC.cell (i := 6) HG8.out rfl
    have g7 := Csn.KbC.cell (i := 7) HG8.out rfl
    by_cases h0 : cz = 0
    · have d0 : (cz != 0) = false := by rw [h0]; rfl
      have HE := Lib.hid (show parG s = some ⟨(ca, cb, cc), o, i, nm, ak, vl⟩ ∧ parE s = 0 from by have := par_yes HG.out.2 (by rw [HG.out.1, HCz.out]; exact h0); rw [HG.out.1] at this; exact ⟨this, by unfold parE; rw [this]; rfl⟩)
      clear h0
      have c0 := Csn.KbC.cell (i := 0) HK5.out rfl
      have c1 := Csn.KbC.cell (i := 1) HK5.out rfl
      have c2 := Csn.KbC.cell (i := 2) HK5.out rfl
      have c3 := Csn.KbC.cell (i := 3) HK5.out rfl
      have c4 := Csn.KbC.cell (i := 4) HK5.out rfl
      have c5 := Csn.KbC.cell (i := 5) HK5.out rfl
      have c6 := Csn.KbC.cell (i := 6) HK5.out rfl
      have c7 := Csn.KbC.cell (i := 7) HK5.out rfl
      go_wp2_with fail
      try simp only [Exit.inBlock, Exit.then]
      refine bodyPost_ret (parse_results _ _ _ _ _ rfl (kbc_set8 HG8.out) rfl) rfl ?_
      exact ⟨by rw [HE.out.1, HE.out.2]; rfl, below_set8 HP5.out.low (Nat.le_refl _) _ _ _ _ _ _ _ _⟩
    · have d0 : (cz != 0) = true := by simpa using h0
      have HE := Lib.hid (show parG s = none ∧ parE s = 4 from by have := par_bad (s := s) (by rw [HG.out.1, HCz.out]; exact h0); exact ⟨this, by unfold parE; rw [this]; rfl⟩)
      clear h0
      go_wp2_with fail
      try simp only [Exit.inBlock, Exit.then]
      refine bodyPost_ret (parse_results _ _ _ _ _ rfl (kbc_set8 HG8.out) rfl) rfl ?_
      exact ⟨by rw [HE.out.1, HE.out.2]; rfl, below_set8 HP5.out.low (Nat.le_refl _) _ _ _ _ _ _ _ _⟩
end Go.Proofs.YtbkignlbcneddaaGreatDoor
end

section
/-
  Contract of change.Read. Condition: a text of at most 1000000 bytes.
-/
set_option maxRecDepth 100000
namespace Go.Proofs.YtbkignlbcneddaaGreatDoor
open Go.RowKit Go.PlainAid
open Csn (Cn cnV cnB KbC kbc_new box_below box_lt parEC parVC vldC fmtS TzOk)
theorem ch_one (W : World) (g : Chg) : ChsAt (W.alloc (chB g)) (some ⟨W.heap.size, 0, none⟩) 1 1 [g] :=
  ⟨rfl, Nat.le_refl _, by decide, fun _ => ⟨_, 0, rfl, by simp, fun j hj k hk => by
    obtain rfl : j = 0 := by simpa using hj
    have h : KbC (W.alloc (chB g)) W.heap.size (chB g) := kbc_new W _
    have e : gA [g] 0 = g := rfl
    rw [e]
    have hv : (gcells g).toArray[k]? = (gcells g)[k]? := by simp
    refine (Lib.hid ?_ : Hid _).out
    unfold World.cell?
    rw [show (W.alloc (chB g)).heap[W.heap.size]? = some (chB g) from h]
    unfold chB
    simp⟩, fun e => by cases e⟩
/-- what the loop keeps: what is left of the text, the records so far -/
structure RdI (w : World) (s : ByteArray) (k : Nat) (u : ByteArray) (out : List Chg) (v : Value) (W : World) : Prop where
  low : Below w.heap.size w W
  own : W.ownsRow w.heap.size 26 8 v out.length (chcells out)
  ok : COk W
  eq : rdG s = readN k u out
  sz : u.size ≤ k
  us : u.size ≤ s.size
  len : out.length ≤ 4096
theorem RdI.step {w W X : World} {s u : ByteArray} {k : Nat} {out : List Chg} {v : Value} (h : RdI w s k u out v W) (hb : Below W.heap.size W X) : RdI w s k u out v X :=
  ⟨h.low.trans (hb.mono h.low.size), own_below h.own hb, h.ok.step hb, h.eq, h.sz, h.us, h.len⟩
theorem rd_end {k : Nat} {u : ByteArray} {out : List Chg} (h : u.size = 0) : readN k u out = (out, 0, 0) := by
  cases k with
  | zero => rfl
  | succ k => exact if_pos h
theorem rd_many {k : Nat} {u : ByteArray} {out : List Chg} (hk : u.size ≤ k) (h : u.size ≠ 0) (hl : 4096 ≤ out.length) : readN k u out = ([], (out.length : Int) + 1, 3) := by
  cases k with
  | zero => omega
  | succ k => unfold readN; rw [if_neg h, if_pos hl]
theorem rd_open {k : Nat} {u : ByteArray} {out : List Chg} (hk : u.size ≤ k) (h : u.size ≠ 0) (hl : ¬ 4096 ≤ out.length) (hc : cutOk u ⟨#[10]⟩ = false) : readN k u out = ([], (out.length : Int) + 1, 31) := by
  cases k with
  | zero => omega
  | succ k => unfold readN; rw [if_neg h, if_neg hl, if_pos hc]
theorem rd_wrong {k : Nat} {u : ByteArray} {out : List Chg} (hk : u.size ≤ k) (h : u.size ≠ 0) (hl : ¬ 4096 ≤ out.length) (hc : cutOk u ⟨#[10]⟩ = true) (hp : parG (cutBef u ⟨#[10]⟩) = none) : readN k u out = ([], (out.length : Int) + 1, 4) := by
  cases k with
  | zero => omega
  | succ k => unfold readN; rw [if_neg h, if_neg hl, if_neg (by rw [hc]; simp), hp]
theorem rd_on {k : Nat} {u : ByteArray} {out : List Chg} {g : Chg} (hk : u.size ≤ k) (h : u.size ≠ 0) (hl : ¬ 4096 ≤ out.length) (hc : cutOk u ⟨#[10]⟩ = true) (hp : parG (cutBef u ⟨#[10]⟩) = some g) :
    readN k u out = readN (k - 1) (cutAft u ⟨#[10]⟩) (out ++ [g]) ∧ (cutAft u ⟨#[10]⟩).size ≤ k - 1 ∧ (cutAft u ⟨#[10]⟩).size < u.size := by
  have hlt := cut_lt hc
  cases k with
  | zero => omega
  | succ k => exact ⟨by rw [show k + 1 - 1 = k from rfl]; conv => lhs; unfold readN; rw [if_neg h, if_neg hl, if_neg (by rw [hc]; simp), hp], by omega, hlt⟩
theorem cutB_size (u : ByteArray) : (cutBef u ⟨#[10]⟩).size ≤ u.size := by
  rcases cut_one u 10 with h | h
  · exact h.2.2.2.1
  · rw [h.2.2.1]; exact Nat.le_refl _
theorem parsek (s : ByteArray) (g : Chg) (c : Int) (w : World) (hs : s.size ≤ 1000000) (ho : COk w) (hg : (parG s).getD zeroG = g) (hc : parE s = c) :
    Calls Tryz.prog 15 #[.string s] w fun e w' => e = .returned (.tuple #[chV g, .int .i64 c]) ∧ Below w.heap.size w w' := by subst hg hc; exact parse_s s w hs ho
theorem parE_or (s : ByteArray) : (parG s = none ∧ parE s = 4) ∨ (∃ g, parG s = some g ∧ parE s = 0) := by
  unfold parE
  cases parG s with
  | none => exact .inl ⟨rfl, rfl⟩
  | some g => exact .inr ⟨g, rfl, rfl⟩
set_option maxHeartbeats 16000000 in
theorem chread_s (s : ByteArray) (w : World) (hs : s.size ≤ 1000000) (ho : COk w) :
    Calls Tryz.prog 21 #[.string s] w fun e w' => ∃ v, e = .returned (.tuple #[v, .int .i64 (rdG s).2.1, .int .i64 (rdG s).2.2]) ∧ w'.ownsRow w.heap.size 26 8 v (rdG s).1.length (chcells (rdG s).1) ∧ Below w.heap.size w w' := by
  have HS := Lib.hid hs
  have HO := Lib.hid ho
  have HI := Lib.hid (show RdI w s s.size s [] (.slice none 0 0) w from ⟨Below.refl _ _, World.ownsRow_nil _ _ _ _, ho, rfl, Nat.le_refl _, Nat.le_refl _, by simp⟩)
  have HNl := Lib.hid (fun (V : World) => (World.ownsRow_nil V w.heap.size 26 8 : V.ownsRow w.heap.size 26 8 (.slice none 0 0) ([] : List Chg).length (chcells [])))
  clear hs ho
  go_enter Tryz.func21, Tryz.ntmps21
  go_wp2_with fail
  go_loopw [0, 5, 6, 7, 8, 9, 10, 11] (fun uv lv nv _ _ _ _ _ wr => ∃ (k : Nat) (u : ByteArray) (out : List Chg), uv = .string u ∧ nv = .int .i64 ((out.length : Int) + 1) ∧ Hid (RdI w s k u out lv wr)) (fun uv _ _ _ _ _ _ _ _ => match uv with | .string u => u.size | _ => 0)
  case atStart => exact ⟨s.size, s, [], rfl, rfl, HI⟩
  case round =>
    clear HI
    obtain ⟨k, u, out, rfl, rfl, HI⟩ := hrel
    have HU := Lib.hid (Nat.le_trans HI.out.us HS.out)
    have hq := nil_ne u
    by_cases h0 : u = nilS
    · rw [decide_eq_false (fun k => k h0)] at hq
      have HE := Lib.hid (show rdG s = (out, 0, 0) from HI.out.eq.trans (rd_end (by rw [h0]; rfl)))
      have he := nil_emp u
      rw [decide_eq_true h0] at he
      clear h0
      go_wp2_with fail
      all_goals
        try simp only [Exit.inBlock, Exit.then]
        refine bodyPost_ret (results_tmp3 rfl _ _ _) rfl ?_
        exact ⟨_, by rw [HE.out]; rfl, by rw [HE.out]; exact HI.out.own, HI.out.low⟩
    · rw [decide_eq_true h0] at hq
      have he := nil_emp u
      rw [decide_eq_false h0] at he
      have HZ := Lib.hid (show u.size ≠ 0 from fun e => h0 (ba_ext (by rw [size_nil e]; rfl)))
      clear h0
      obtain ⟨x, hx⟩ : ∃ x, cutBef u ⟨#[10]⟩ = x := ⟨_, rfl⟩
      obtain ⟨y, hy⟩ : ∃ x, cutAft u ⟨#[10]⟩ = x := ⟨_, rfl⟩
      obtain ⟨z, hz⟩ : ∃ x, cutOk u ⟨#[10]⟩ = x := ⟨_, rfl⟩
      have HX := Lib.hid (And.intro hx (And.intro hy hz))
      have HC := Lib.hid (cut_b u 10 wr (by have := HU.out; omega) HI.out.ok.mx)
      rw [hx, hy, hz] at HC
      clear hx hy hz
      go_wp2_with fail
      refine HC.out.mono ?_
      rintro e w1 ⟨rfl, hb⟩
      have HI := Lib.hid (HI.out.step hb)
      clear hb
      by_cases h1 : 4096 ≤ out.length
      · have d1 : (4096 : Int) < (out.length : Int) + 1 := by omega
        have HE := Lib.hid (HI.out.eq.trans (rd_many HI.out.sz HZ.out h1))
        clear h1
        go_wp2_with fail
        try simp only [Exit.inBlock, Exit.then]
        refine bodyPost_ret (results_tmp3 rfl _ _ _) rfl ?_
        exact ⟨.slice none 0 0, by rw [HE.out]; rfl, by rw [HE.out]; exact HNl.out _, HI.out.low⟩
      · have d1 : ¬ (4096 : Int) < (out.length : Int) + 1 := by omega
        have H1 := Lib.hid h1
        clear h1
        cases z
        · have HE := Lib.hid (HI.out.eq.trans (rd_open HI.out.sz HZ.out H1.out HX.out.2.2))
          go_wp2_with fail
          try simp only [Exit.inBlock, Exit.then]
          refine bodyPost_ret (results_tmp3 rfl _ _ _) rfl ?_
          exact ⟨.slice none 0 0, by rw [HE.out]; rfl, by rw [HE.out]; exact HNl.out _, HI.out.low⟩
        · obtain ⟨g, hg⟩ : ∃ v, (parG x).getD zeroG = v := ⟨_, rfl⟩
          obtain ⟨c, hc⟩ : ∃ v, parE x = v := ⟨_, rfl⟩
          have HC1 := Lib.hid (parsek x g c w1 (by rw [← HX.out.1]; exact Nat.le_trans (cutB_size u) HU.out) HI.out.ok hg hc)
          have HG := Lib.hid (And.intro hg hc)
          clear hg hc
          obtain ⟨⟨t, q, r⟩, o, id, nm, a, vl⟩ := g
          rw [chV_is] at HC1
          go_wp2_with fail
          refine HC1.out.mono ?_
          rintro e w2 ⟨rfl, hb⟩
          have HI := Lib.hid (HI.out.step hb)
          clear hb
          have HIb := Lib.hid (HI.out.step (box_below w2 (chB ⟨(t, q, r), o, id, nm, a, vl⟩)))
          have HKb := Lib.hid (kbc_new w2 (chB ⟨(t, q, r), o, id, nm, a, vl⟩))
          rw [chB_is] at HIb HKb
          rcases parE_or x with ⟨p1, p2⟩ | ⟨g', p1, p2⟩
          · obtain rfl : c = 4 := HG.out.2.symm.trans p2
            have HE := Lib.hid (HI.out.eq.trans (rd_wrong HI.out.sz HZ.out H1.out HX.out.2.2 (by rw [HX.out.1]; exact p1)))
            clear p1 p2
            go_wp2_with fail
            try simp only [Exit.inBlock, Exit.then]
            refine bodyPost_ret (results_tmp3 rfl _ _ _) rfl ?_
            exact ⟨.slice none 0 0, by rw [HE.out]; rfl, by rw [HE.out]; exact HNl.out _, HIb.out.low⟩
          · obtain rfl : c = 0 := HG.out.2.symm.trans p2
            have HP := Lib.hid (show parG x = some ⟨(t, q, r), o, id, nm, a, vl⟩ from by rw [← HG.out.1, p1]; rfl)
            clear p1 p2
            have HE := Lib.hid (rd_on HI.out.sz HZ.out H1.out HX.out.2.2 (by rw [HX.out.1]; exact HP.out))
            rw [HX.out.2.1] at HE
            have c0 := Csn.KbC.cell (i := 0) HKb.out rfl
            have c1 := Csn.KbC.cell (i := 1) HKb.out rfl
            have c2 := Csn.KbC.cell (i := 2) HKb.out rfl
            have c3 := Csn.KbC.cell (i := 3) HKb.out rfl
            have c4 := Csn.KbC.cell (i := 4) HKb.out rfl
            have c5 := Csn.KbC.cell (i := 5) HKb.out rfl
            have c6 := Csn.KbC.cell (i := 6) HKb.out rfl
            have c7 := Csn.KbC.cell (i := 7) HKb.out rfl
            have HOn := Lib.hid (ch_one (w2.alloc (chB ⟨(t, q, r), o, id, nm, a, vl⟩)) ⟨(t, q, r), o, id, nm, a, vl⟩)
            rw [chB_is, World.size_alloc] at HOn
            have HSz := Lib.hid (show w.heap.size ≤ ((w2.alloc (.cells #[.int .i64 t, .int .i64 q, .int .i64 r, .int .i64 o, .string id, .string nm, .string a, .string vl] 26)).alloc (.cells #[.int .i64 t, .int .i64 q, .int .i64 r, .int .i64 o, .string id, .string nm, .string a, .string vl] 26)).heap.size from by have := HI.out.low.size; simp; omega)
            have HO2 := Lib.hid (own_below HIb.out.own (box_below (w2.alloc (.cells #[.int .i64 t, .int .i64 q, .int .i64 r, .int .i64 o, .string id, .string nm, .string a, .string vl] 26)) (.cells #[.int .i64 t, .int .i64 q, .int .i64 r, .int .i64 o, .string id, .string nm, .string a, .string vl] 26)))
            have HLo := Lib.hid (show Below w.heap.size w ((w2.alloc (.cells #[.int .i64 t, .int .i64 q, .int .i64 r, .int .i64 o, .string id, .string nm, .string a, .string vl] 26)).alloc (.cells #[.int .i64 t, .int .i64 q, .int .i64 r, .int .i64 o, .string id, .string nm, .string a, .string vl] 26)) from HIb.out.low.trans ((box_below _ _).mono HIb.out.low.size))
            have HOk := Lib.hid (HIb.out.ok.step (box_below (w2.alloc (.cells #[.int .i64 t, .int .i64 q, .int .i64 r, .int .i64 o, .string id, .string nm, .string a, .string vl] 26)) (.cells #[.int .i64 t, .int .i64 q, .int .i64 r, .int .i64 o, .string id, .string nm, .string a, .string vl] 26)))
            have HLe := Lib.hid (show out.length + 1 ≤ 1000000000 from by have := HI.out.len; omega)
            have HSy := Lib.hid (show y.size ≤ s.size from Nat.le_trans (Nat.le_of_lt HE.out.2.2) HI.out.us)
            have HEq := Lib.hid (HI.out.eq.trans HE.out.1)
            go_wp2_with (at_builtin; refine app_chs ((w2.alloc _).alloc _) HO2.out (.tmp 37) (.tmp 39) (some ⟨w2.heap.size + 1, 0, none⟩) 1 1 [⟨(t, q, r), o, id, nm, a, vl⟩] ?_ ?_ ?_ ?_ ?_ ?_ ?_ ?_; exact rfl; exact rfl; exact rfl; exact rfl; exact HOn.out; exact HLe.out; (show w.heap.size ≤ ((w2.heap.push _).push _).size; exact HSz.out); intro v3 W3 hown3 hb3)
            rw [← chcells_app] at hown3
            go_roundw
            case rel => exact ⟨k - 1, y, out ++ [⟨(t, q, r), o, id, nm, a, vl⟩], by go_num, by simp, Lib.hid ⟨HLo.out.trans hb3, by simpa using hown3, HOk.out.keep HO.out (Nat.le_refl _) hb3, HEq.out, HE.out.2.1, HSy.out, by have := H1.out; simp; omega⟩⟩
            case measure => exact HE.out.2.2
end Go.Proofs.YtbkignlbcneddaaGreatDoor
end

section
/-
  Contract of the reference's added. Condition: at most 100000 records without errors, strings of at most 1000000 bytes.
-/
set_option maxRecDepth 100000
namespace Go.Proofs.YtbkignlbcneddaaGreatDoor
open Go.RowKit Go.PlainAid
open Csn (Cn cnV cnB KbC kbc_new box_below box_lt parEC parVC vldC fmtS TzOk ltC cmpC)
theorem bl_dec (a b : ByteArray) : Op.bytesLess a.toList b.toList = decide (cmpS a b < 0) := by rw [less_cmp, Lib.toList_data, Lib.toList_data]; rfl
theorem le_or {a b : ByteArray} (h : ¬ cmpS a b < 0) : Op.bytesLess b.toList a.toList = true ∨ (b.toList == a.toList) = true := by
  have h1 := cmpS_ord.anti a b
  rcases cmpS_ord.range a b with k | k | k
  · omega
  · exact .inr (by rw [str_eq]; exact decide_eq_true ((cmpS_ord.zero a b).1 k).symm)
  · exact .inl (by rw [bl_dec]; exact decide_eq_true (by omega))
theorem gt_and {a b : ByteArray} (h : cmpS a b < 0) : Op.bytesLess b.toList a.toList = false ∧ (b.toList == a.toList) = false := by
  have h1 := cmpS_ord.anti a b
  have hne : ¬ b = a := fun e => by
    have := (cmpS_ord.zero a b).2 e.symm
    omega
  exact ⟨by rw [bl_dec]; exact decide_eq_false (by omega), by rw [str_eq]; exact decide_eq_false hne⟩
/-- what the pass keeps: the list so far, how far the world has gone -/
structure AdI (w1 : World) (out : List Chg) (v : Value) (W : World) : Prop where
  low : Below w1.heap.size w1 W
  own : W.ownsRow w1.heap.size 26 8 v out.length (chcells out)
theorem AdI.step {w1 W X : World} {out : List Chg} {v : Value} (h : AdI w1 out v W) (hb : Below W.heap.size W X) : AdI w1 out v X := ⟨h.low.trans (hb.mono h.low.size), own_below h.own hb⟩
set_option maxHeartbeats 16000000 in
theorem added_s (ao : Option Addr) (n cap : Nat) (l : List Chg) (g : Chg) (w : World) (h : ChsAt w ao n cap l) (hz : ∀ d ∈ l, SmG d) (hg : SmG g) (hc : ∀ d ∈ l, chkG d = 0) (hn : n ≤ 100000) (ha : AscG l) (ho : MaxOk w) :
    Calls Tryz.prog 70 #[.slice ao n cap, chV g] w fun e w' => ∃ xo m xc, e = .returned (.slice xo m xc) ∧ ChsAt w' xo m xc (addG l g) ∧ Below w.heap.size w w' := by
  have HL := Lib.hid h
  have HN := Lib.hid h.1
  have HZ := Lib.hid hz
  have HC0 := Lib.hid hc
  have HS := Lib.hid hn
  have HA := Lib.hid ha
  have HM := Lib.hid ho
  have HGz := Lib.hid hg
  obtain ⟨lg, hlg⟩ : ∃ x, lnV g = x := ⟨_, rfl⟩
  obtain ⟨cg, hcg⟩ : ∃ x, chkG g = x := ⟨_, rfl⟩
  have HW := Lib.hid (fun V (hV : MaxOk V) => rlinek g lg cg V HGz.out hV hlg hcg)
  have HGc := Lib.hid (And.intro hlg hcg)
  have HB0 := Lib.hid (box_below w (chB g))
  have HK0 := Lib.hid (kbc_new w (chB g))
  clear h hz hc hn ha ho hg hlg hcg
  obtain ⟨⟨t, s, q⟩, op, id, nm, ak, vl⟩ := g
  rw [chV_is] at HW ⊢
  rw [chB_is] at HB0 HK0
  have b0 := Csn.KbC.cell (i := 0) HK0.out rfl
  have b1 := Csn.KbC.cell (i := 1) HK0.out rfl
  have b2 := Csn.KbC.cell (i := 2) HK0.out rfl
  have b3 := Csn.KbC.cell (i := 3) HK0.out rfl
  have b4 := Csn.KbC.cell (i := 4) HK0.out rfl
  have b5 := Csn.KbC.cell (i := 5) HK0.out rfl
  have b6 := Csn.KbC.cell (i := 6) HK0.out rfl
  have b7 := Csn.KbC.cell (i := 7) HK0.out rfl
  go_enter Tryz.func70, Tryz.ntmps70
  go_wp2_with fail
  clear b0 b1 b2 b3 b4 b5 b6 b7
  refine (HW.out _ (HM.out.far HB0.out)).mono ?_
  rintro e w1 ⟨rfl, hb⟩
  have HB1 := Lib.hid (HB0.out.trans (hb.mono HB0.out.size))
  have HK1 := Lib.hid (Csn.KbC.step HK0.out hb)
  have HBg := Lib.hid (Csn.KbC.big HK1.out)
  clear hb HB0 HK0
  by_cases h0 : cg = 0
  · have q0 : (cg != 0) = false := by rw [h0]; rfl
    have HAd := Lib.hid (show addG l ⟨(t, s, q), op, id, nm, ak, vl⟩ = insG l ⟨(t, s, q), op, id, nm, ak, vl⟩ from by unfold addG; rw [if_pos (HGc.out.2.trans h0)])
    have HLg := Lib.hid (show lg = lineG ⟨(t, s, q), op, id, nm, ak, vl⟩ from by rw [← HGc.out.1]; exact if_pos (HGc.out.2.trans h0))
    clear h0
    have HI := Lib.hid (show AdI w1 ((l.take 0).foldl (adS ⟨(t, s, q), op, id, nm, ak, vl⟩) ([], false)).1 (.slice none 0 0) w1 from ⟨Below.refl _ _, World.ownsRow_nil _ _ _ _⟩)
    have HKk := Lib.hid (fun V (hV : Below w1.heap.size w1 V) => Csn.KbC.step HK1.out hV)
    have HLk := Lib.hid (fun V (hV : Below w1.heap.size w1 V) => HL.out.below (HB1.out.trans (hV.mono HB1.out.size)))
    have HMk := Lib.hid (fun V (hV : Below w1.heap.size w1 V) => HM.out.far (HB1.out.trans (hV.mono HB1.out.size)))
    go_wp2_with fail
    go_loopw [7, 8, 9, 10, 11, 12] (fun lv dv iv _ _ _ wr => ∃ i : Nat, i ≤ n ∧ iv = .int .i64 i ∧ dv = .bool ((l.take i).foldl (adS ⟨(t, s, q), op, id, nm, ak, vl⟩) ([], false)).2 ∧ Hid (AdI w1 ((l.take i).foldl (adS ⟨(t, s, q), op, id, nm, ak, vl⟩) ([], false)).1 lv wr)) (fun _ _ iv _ _ _ _ => n - (intOf iv).toNat)
    case atStart => exact ⟨0, Nat.zero_le _, rfl, rfl, HI⟩
    case round =>
      clear HI
      obtain ⟨i, hi, rfl, rfl, HI⟩ := hrel
      have hn6 : n ≤ 100000 := HS.out
      by_cases hlt : i < n
      · have e1 : (i : Int) < (n : Int) := by omega
        obtain ⟨b, off, hao, hcs⟩ := HL.out.2.2.2.1 (by omega)
        subst hao
        have HC := Lib.hid (show ∀ V, Below w1.heap.size w1 V → At8 V b (off + i * 8) (gA l i) from fun V hV => by
          obtain ⟨b', o', e', hc⟩ := (HLk.out V hV).2.2.2.1 (by omega)
          cases e'
          exact hc.at8 (by rw [HN.out]; exact hlt))
        have HNx := Lib.hid (ad_next (l := l) (i := i) (by rw [HN.out]; exact hlt) ⟨(t, s, q), op, id, nm, ak, vl⟩ ([], false))
        have HQ := Lib.hid (show ((l.take i).foldl (adS ⟨(t, s, q), op, id, nm, ak, vl⟩) ([], false)).1.length + 2 ≤ 1000000000 from by have h1 := ad_len (g := ⟨(t, s, q), op, id, nm, ak, vl⟩) (l.take i) ([], false); have h2 : (l.take i).length ≤ i := List.length_take_le _ _; simp only [List.length_nil] at h1; omega)
        obtain ⟨⟨out, dn⟩, hst⟩ : ∃ x, (l.take i).foldl (adS ⟨(t, s, q), op, id, nm, ak, vl⟩) ([], false) = x := ⟨_, rfl⟩
        rw [hst] at HNx HQ HI
        simp only [hst]
        have HSt0 := Lib.hid hst
        clear hst
        obtain ⟨d, hd⟩ : ∃ x, gA l i = x := ⟨_, rfl⟩
        have HDz := Lib.hid (show SmG d from by rw [← hd]; exact HZ.out _ (g_mem (by rw [HN.out]; exact hlt)))
        have HDc := Lib.hid (show chkG d = 0 from by rw [← hd]; exact HC0.out _ (g_mem (by rw [HN.out]; exact hlt)))
        rw [hd] at HC HNx
        clear hd hcs
        obtain ⟨ld, hld⟩ : ∃ x, lnV d = x := ⟨_, rfl⟩
        have HWd := Lib.hid (fun V (hV : MaxOk V) => rlinek d ld 0 V HDz.out hV hld HDc.out)
        have HLd := Lib.hid (show ld = lineG d from by rw [← hld]; exact if_pos HDc.out)
        clear hld
        obtain ⟨⟨dt, ds, dq⟩, dop, did, dnm, dak, dvl⟩ := d
        rw [chV_is] at HWd
        obtain ⟨x, hx⟩ : ∃ x, cmpC (dt, ds, dq) (t, s, q) = x := ⟨_, rfl⟩
        have HCm := Lib.hid (fun V => Csn.rcmp_k dt ds dq t s q x V hx)
        have HX := Lib.hid hx
        clear hx
        have HSt := Lib.hid (show ∀ V : World, AdI w1 out u7 V → (fun V : World => V.cell? ⟨b, off + i * 8, none⟩ = some (.int .i64 dt) ∧ V.cell? ⟨b, off + i * 8 + 1, none⟩ = some (.int .i64 ds) ∧ V.cell? ⟨b, off + i * 8 + 2, none⟩ = some (.int .i64 dq) ∧ V.cell? ⟨w.heap.size, 0, none⟩ = some (.int .i64 t) ∧ V.cell? ⟨w.heap.size, 1, none⟩ = some (.int .i64 s) ∧ V.cell? ⟨w.heap.size, 2, none⟩ = some (.int .i64 q) ∧ Hid (AdI w1 out u7 V)) V from fun V h => ⟨(HC.out V h.low).c0, (HC.out V h.low).c1, (HC.out V h.low).c2, Csn.KbC.cell (HKk.out V h.low) rfl, Csn.KbC.cell (HKk.out V h.low) rfl, Csn.KbC.cell (HKk.out V h.low) rfl, Lib.hid h⟩)
        have k1 : (0 : Int) ≤ (i : Int) := by omega
        go_wp2_with fail
        have S0 := HSt.out _ (HI.out.step (Below.refl _ _).drew)
        refine wp_region_held_drew (S := fun V => V.cell? ⟨b, off + i * 8, none⟩ = some (.int .i64 dt) ∧ V.cell? ⟨b, off + i * 8 + 1, none⟩ = some (.int .i64 ds) ∧ V.cell? ⟨b, off + i * 8 + 2, none⟩ = some (.int .i64 dq) ∧ V.cell? ⟨w.heap.size, 0, none⟩ = some (.int .i64 t) ∧ V.cell? ⟨w.heap.size, 1, none⟩ = some (.int .i64 s) ∧ V.cell? ⟨w.heap.size, 2, none⟩ = some (.int .i64 q) ∧ Hid (AdI w1 out u7 V)) (by kernel_rfl) (S0) (fun hS => ?_)
        refine wpAnyH_take (i := 0) (oi := { dst := some 27, op := _, type := _, pos := _, after := _, guard := _ }) (v := ?_) rfl (by kernel_rfl) (by kernel_rfl) (by kernel_rfl) (fun _ _ _ h => h) (Or.inl ⟨by rfl, ?_⟩) (by assumption) ?_
        rotate_left
        · intro w hSw
          try dsimp only at hSw
          go_simp
          try with_reducible rfl
        try simp only [Act.put, List.setIfInBounds_toArray, List.set_cons_zero, List.set_cons_succ]
        refine wpAnyH_take (i := 1) (oi := { dst := some 28, op := _, type := _, pos := _, after := _, guard := _ }) (v := ?_) rfl (by kernel_rfl) (by kernel_rfl) (by kernel_rfl) (fun _ _ _ h => h) (Or.inl ⟨by rfl, ?_⟩) (by assumption) ?_
        rotate_left
        · intro w hSw
          try dsimp only at hSw
          go_simp
          try with_reducible rfl
        try simp only [Act.put, List.setIfInBounds_toArray, List.set_cons_zero, List.set_cons_succ]
        refine wpAnyH_take (i := 2) (oi := { dst := some 29, op := _, type := _, pos := _, after := _, guard := _ }) (v := ?_) rfl (by kernel_rfl) (by kernel_rfl) (by kernel_rfl) (fun _ _ _ h => h) (Or.inl ⟨by rfl, ?_⟩) (by assumption) ?_
        rotate_left
        · intro w hSw
          try dsimp only at hSw
          go_simp
          try with_reducible rfl
        try simp only [Act.put, List.setIfInBounds_toArray, List.set_cons_zero, List.set_cons_succ]
        refine wpAnyH_take (i := 3) (oi := { dst := some 30, op := _, type := _, pos := _, after := _, guard := _ }) (v := ?_) rfl (by kernel_rfl) (by kernel_rfl) (by kernel_rfl) (fun _ _ _ h => h) (Or.inl ⟨by rfl, ?_⟩) (by assumption) ?_
        rotate_left
        · intro w hSw
          try dsimp only at hSw
          go_simp
          try with_reducible rfl
        try simp only [Act.put, List.setIfInBounds_toArray, List.set_cons_zero, List.set_cons_succ]
        refine wpAnyH_take (i := 4) (oi := { dst := some 31, op := _, type := _, pos := _, after := _, guard := _ }) (v := ?_) rfl (by kernel_rfl) (by kernel_rfl) (by kernel_rfl) (fun _ _ _ h => h) (Or.inl ⟨by rfl, ?_⟩) (by assumption) ?_
        rotate_left
        · intro w hSw
          try dsimp only at hSw
          go_simp
          try with_reducible rfl
        try simp only [Act.put, List.setIfInBounds_toArray, List.set_cons_zero, List.set_cons_succ]
        refine wpAnyH_take (i := 5) (oi := { dst := some 32, op := _, type := _, pos := _, after := _, guard := _ }) (v := ?_) rfl (by kernel_rfl) (by kernel_rfl) (by kernel_rfl) (fun _ _ _ h => h) (Or.inl ⟨by rfl, ?_⟩) (by assumption) ?_
        rotate_left
        · intro w hSw
          try dsimp only at hSw
          go_simp
          try with_reducible rfl
        try simp only [Act.put, List.setIfInBounds_toArray, List.set_cons_zero, List.set_cons_succ]
        refine wpAnyH_take (i := 6) (oi := { dst := some 33, op := _, type := _, pos := _, after := _, guard := _ }) (v := ?_) rfl (by kernel_rfl) (by kernel_rfl) (by kernel_rfl) (fun _ _ _ h => h) (Or.inl ⟨by rfl, ?_⟩) (by assumption) ?_
        rotate_left
        · intro w hSw
          try dsimp only at hSw
          go_simp
          try with_reducible rfl
        try simp only [Act.put, List.setIfInBounds_toArray, List.set_cons_zero, List.set_cons_succ]
        refine wpAnyH_ready (rs := [7]) (by kernel_rfl) (by simp) ?_
        refine AllReadyH.cons rfl (fun K hK => ?_) AllReadyH.nil
        go_simp
        refine (HCm.out _).mono ?_
        rintro _ v2 ⟨rfl, hb⟩
        have HK2 := Lib.hid (hS.2.2.2.2.2.2.out.step hb)
        clear hb
        go_wp2_with fail
        refine hK.out _ _ ?_ (fun hHeld => ?_)
        · exact HSt.out _ HK2.out
        clear hK K
        try simp only [Act.put, List.setIfInBounds_toArray, List.set_cons_zero, List.set_cons_succ]
        refine wpAnyH_take (i := 8) (oi := { dst := some 10, op := _, type := _, pos := _, after := _, guard := _ }) (v := ?_) rfl (by kernel_rfl) (by kernel_rfl) (by kernel_rfl) (fun _ _ _ h => h) (Or.inl ⟨by rfl, ?_⟩) (by assumption) ?_
        rotate_left
        · intro w hSw
          try dsimp only at hSw
          go_simp
          try with_reducible rfl
        try simp only [Act.put, List.setIfInBounds_toArray, List.set_cons_zero, List.set_cons_succ]
        refine wpAnyH_done (by kernel_rfl) ?_ _
        have HI := Lib.hid hHeld.2.2.2.2.2.2.out
        clear hHeld
        by_cases hx0 : x = 0
        · subst hx0
          have hdc : (dt, ds, dq) = (t, s, q) := Csn.cmpC_eq.1 HX.out
          obtain ⟨y, hy⟩ : ∃ y, decide (cmpS lg ld < 0) = y := ⟨_, rfl⟩
          have HY := Lib.hid hy
          clear hy
          obtain ⟨c0, c1, c2, c3, c4, c5, c6, c7⟩ := HC.out v2 HI.out.low
          dsimp only at c0 c1 c2 c3 c4 c5 c6 c7
          go_wp2_with fail
          refine (HWd.out _ (HMk.out _ HI.out.low)).mono ?_
          rintro e v4 ⟨rfl, hb⟩
          have HI := Lib.hid (HI.out.step hb)
          clear hb c0 c1 c2 c3 c4 c5 c6 c7
          cases y
          · have HStep := Lib.hid (show (l.take (i + 1)).foldl (adS ⟨(t, s, q), op, id, nm, ak, vl⟩) ([], false) = (out ++ [⟨(dt, ds, dq), dop, did, dnm, dak, dvl⟩], true) from by rw [HNx.out]; unfold adS; rw [if_pos hdc, ← HLg.out, ← HLd.out, if_neg (of_decide_eq_false HY.out)])
            clear hdc
            rcases le_or (of_decide_eq_false HY.out) with hA | hA
            all_goals
              have HOn := Lib.hid (ch_one v4 ⟨(dt, ds, dq), dop, did, dnm, dak, dvl⟩)
              rw [chB_is] at HOn
              have HO2 := Lib.hid (own_below HI.out.own (box_below v4 (.cells #[.int .i64 dt, .int .i64 ds, .int .i64 dq, .int .i64 dop, .string did, .string dnm, .string dak, .string dvl] 26)))
              have HLo := Lib.hid (show Below w1.heap.size w1 (v4.alloc (.cells #[.int .i64 dt, .int .i64 ds, .int .i64 dq, .int .i64 dop, .string did, .string dnm, .string dak, .string dvl] 26)) from HI.out.low.trans ((box_below v4 (.cells #[.int .i64 dt, .int .i64 ds, .int .i64 dq, .int .i64 dop, .string did, .string dnm, .string dak, .string dvl] 26)).mono HI.out.low.size))
              obtain ⟨c0, c1, c2, c3, c4, c5, c6, c7⟩ := HC.out v4 HI.out.low
              dsimp only at c0 c1 c2 c3 c4 c5 c6 c7
              go_wp2_with (at_builtin; refine app_chs (v4.alloc _) HO2.out (.tmp 65) (.tmp 70) (some ⟨v4.heap.size, 0, none⟩) 1 1 [⟨(dt, ds, dq), dop, did, dnm, dak, dvl⟩] ?_ ?_ ?_ ?_ ?_ ?_ ?_ ?_; exact rfl; exact rfl; exact rfl; exact rfl; exact HOn.out; exact (Nat.le_trans (Nat.le_succ _) HQ.out); exact HLo.out.size; intro v3 W3 hownW3 hbW3)
              rw [← chcells_app] at hownW3
              go_roundw
              case rel => exact ⟨i + 1, by omega, by go_num, by rw [HStep.out], Lib.hid (by rw [HStep.out]; exact ⟨HLo.out.trans hbW3, by simpa using hownW3⟩)⟩
              case measure => simp [intOf]; omega
          · have HStep := Lib.hid (show (l.take (i + 1)).foldl (adS ⟨(t, s, q), op, id, nm, ak, vl⟩) ([], false) = (out ++ [⟨(t, s, q), op, id, nm, ak, vl⟩], true) from by rw [HNx.out]; unfold adS; rw [if_pos hdc, ← HLg.out, ← HLd.out, if_pos (of_decide_eq_true HY.out)])
            clear hdc
            obtain ⟨hA, hB⟩ := gt_and (of_decide_eq_true HY.out)
            have HOn := Lib.hid (ch_one v4 ⟨(t, s, q), op, id, nm, ak, vl⟩)
            rw [chB_is] at HOn
            have HO2 := Lib.hid (own_below HI.out.own (box_below v4 (.cells #[.int .i64 t, .int .i64 s, .int .i64 q, .int .i64 op, .string id, .string nm, .string ak, .string vl] 26)))
            have HLo := Lib.hid (show Below w1.heap.size w1 (v4.alloc (.cells #[.int .i64 t, .int .i64 s, .int .i64 q, .int .i64 op, .string id, .string nm, .string ak, .string vl] 26)) from HI.out.low.trans ((box_below v4 (.cells #[.int .i64 t, .int .i64 s, .int .i64 q, .int .i64 op, .string id, .string nm, .string ak, .string vl] 26)).mono HI.out.low.size))
            have b0 := Csn.KbC.cell (i := 0) (HKk.out v4 HI.out.low) rfl
            have b1 := Csn.KbC.cell (i := 1) (HKk.out v4 HI.out.low) rfl
            have b2 := Csn.KbC.cell (i := 2) (HKk.out v4 HI.out.low) rfl
            have b3 := Csn.KbC.cell (i := 3) (HKk.out v4 HI.out.low) rfl
            have b4 := Csn.KbC.cell (i := 4) (HKk.out v4 HI.out.low) rfl
            have b5 := Csn.KbC.cell (i := 5) (HKk.out v4 HI.out.low) rfl
            have b6 := Csn.KbC.cell (i := 6) (HKk.out v4 HI.out.low) rfl
            have b7 := Csn.KbC.cell (i := 7) (HKk.out v4 HI.out.low) rfl
            go_wp2_with (at_builtin; refine app_chs (v4.alloc _) HO2.out (.tmp 72) (.tmp 74) (some ⟨v4.heap.size, 0, none⟩) 1 1 [⟨(t, s, q), op, id, nm, ak, vl⟩] ?_ ?_ ?_ ?_ ?_ ?_ ?_ ?_; exact rfl; exact rfl; exact rfl; exact rfl; exact HOn.out; exact (Nat.le_trans (Nat.le_succ _) HQ.out); exact HLo.out.size; intro v3 W3 hownW3 hbW3)
            rw [← chcells_app] at hownW3
            go_roundw
            case rel => exact ⟨i + 1, by omega, by go_num, by rw [HStep.out], Lib.hid (by rw [HStep.out]; exact ⟨HLo.out.trans hbW3, by simpa using hownW3⟩)⟩
            case measure => simp [intOf]; omega
        · have hne : ¬ (dt, ds, dq) = (t, s, q) := fun e => hx0 (by rw [← HX.out]; exact Csn.cmpC_eq.2 e)
          have qx : (x != 0) = true := by simpa using hx0
          by_cases hp : 0 < x
          · have dp : decide (0 < x) = true := decide_eq_true hp
            have hgt : ltC (t, s, q) (dt, ds, dq) := Csn.cmpC_gt.1 (by rw [HX.out]; exact hp)
            cases dn
            · have HStep := Lib.hid (show (l.take (i + 1)).foldl (adS ⟨(t, s, q), op, id, nm, ak, vl⟩) ([], false) = (out ++ [⟨(t, s, q), op, id, nm, ak, vl⟩] ++ [⟨(dt, ds, dq), dop, did, dnm, dak, dvl⟩], true) from by rw [HNx.out]; unfold adS; rw [if_neg hne, if_pos ⟨hgt, rfl⟩])
              clear hne hgt hx0
              have HOn := Lib.hid (ch_one v2 ⟨(t, s, q), op, id, nm, ak, vl⟩)
              rw [chB_is] at HOn
              have HO2 := Lib.hid (own_below HI.out.own (box_below v2 (.cells #[.int .i64 t, .int .i64 s, .int .i64 q, .int .i64 op, .string id, .string nm, .string ak, .string vl] 26)))
              have HLo := Lib.hid (show Below w1.heap.size w1 (v2.alloc (.cells #[.int .i64 t, .int .i64 s, .int .i64 q, .int .i64 op, .string id, .string nm, .string ak, .string vl] 26)) from HI.out.low.trans ((box_below v2 (.cells #[.int .i64 t, .int .i64 s, .int .i64 q, .int .i64 op, .string id, .string nm, .string ak, .string vl] 26)).mono HI.out.low.size))
              have b0 := Csn.KbC.cell (i := 0) (HKk.out v2 HI.out.low) rfl
              have b1 := Csn.KbC.cell (i := 1) (HKk.out v2 HI.out.low) rfl
              have b2 := Csn.KbC.cell (i := 2) (HKk.out v2 HI.out.low) rfl
              have b3 := Csn.KbC.cell (i := 3) (HKk.out v2 HI.out.low) rfl
              have b4 := Csn.KbC.cell (i := 4) (HKk.out v2 HI.out.low) rfl
              have b5 := Csn.KbC.cell (i := 5) (HKk.out v2 HI.out.low) rfl
              have b6 := Csn.KbC.cell (i := 6) (HKk.out v2 HI.out.low) rfl
              have b7 := Csn.KbC.cell (i := 7) (HKk.out v2 HI.out.low) rfl
              go_wp2_with (first | (at_builtin; refine app_chs (v2.alloc _) HO2.out (.tmp 41) (.tmp 43) (some ⟨v2.heap.size, 0, none⟩) 1 1 [⟨(t, s, q), op, id, nm, ak, vl⟩] ?_ ?_ ?_ ?_ ?_ ?_ ?_ ?_; exact rfl; exact rfl; exact rfl; exact rfl; exact HOn.out; exact (Nat.le_trans (Nat.le_succ _) HQ.out); exact HLo.out.size; intro v3 W3 hownW3 hbW3; have HI3 : Hid (AdI w1 (out ++ [⟨(t, s, q), op, id, nm, ak, vl⟩]) v3 W3) := Lib.hid ⟨HLo.out.trans hbW3, by rw [← chcells_app] at hownW3; simpa using hownW3⟩; obtain ⟨c0, c1, c2, c3, c4, c5, c6, c7⟩ := HC.out W3 HI3.out.low; dsimp only at c0 c1 c2 c3 c4 c5 c6 c7; have HOnb := Lib.hid (ch_one W3 ⟨(dt, ds, dq), dop, did, dnm, dak, dvl⟩); rw [chB_is] at HOnb; have HO2b := Lib.hid (own_below HI3.out.own (box_below W3 (.cells #[.int .i64 dt, .int .i64 ds, .int .i64 dq, .int .i64 dop, .string did, .string dnm, .string dak, .string dvl] 26))); have HLob := Lib.hid (show Below w1.heap.size w1 (W3.alloc (.cells #[.int .i64 dt, .int .i64 ds, .int .i64 dq, .int .i64 dop, .string did, .string dnm, .string dak, .string dvl] 26)) from HI3.out.low.trans ((box_below W3 (.cells #[.int .i64 dt, .int .i64 ds, .int .i64 dq, .int .i64 dop, .string did, .string dnm, .string dak, .string dvl] 26)).mono HI3.out.low.size))) | (at_builtin; refine app_chs (W3.alloc _) HO2b.out (.tmp 47) (.tmp 52) (some ⟨W3.heap.size, 0, none⟩) 1 1 [⟨(dt, ds, dq), dop, did, dnm, dak, dvl⟩] ?_ ?_ ?_ ?_ ?_ ?_ ?_ ?_; exact rfl; exact rfl; exact rfl; exact rfl; exact HOnb.out; exact (by rw [List.length_append]; exact HQ.out); exact HLob.out.size; intro v5 W5 hownW5 hbW5))
              rw [← chcells_app] at hownW5
              go_roundw
              case rel => exact ⟨i + 1, by omega, by go_num, by rw [HStep.out], Lib.hid (by rw [HStep.out]; exact ⟨HLob.out.trans hbW5, by simpa using hownW5⟩)⟩
              case measure => simp [intOf]; omega
            · have HStep := Lib.hid (show (l.take (i + 1)).foldl (adS ⟨(t, s, q), op, id, nm, ak, vl⟩) ([], false) = (out ++ [⟨(dt, ds, dq), dop, did, dnm, dak, dvl⟩], true) from by rw [HNx.out]; unfold adS; rw [if_neg hne, if_neg (by simp)])
              clear hne hgt hx0
              have HOn := Lib.hid (ch_one v2 ⟨(dt, ds, dq), dop, did, dnm, dak, dvl⟩)
              rw [chB_is] at HOn
              have HO2 := Lib.hid (own_below HI.out.own (box_below v2 (.cells #[.int .i64 dt, .int .i64 ds, .int .i64 dq, .int .i64 dop, .string did, .string dnm, .string dak, .string dvl] 26)))
              have HLo := Lib.hid (show Below w1.heap.size w1 (v2.alloc (.cells #[.int .i64 dt, .int .i64 ds, .int .i64 dq, .int .i64 dop, .string did, .string dnm, .string dak, .string dvl] 26)) from HI.out.low.trans ((box_below v2 (.cells #[.int .i64 dt, .int .i64 ds, .int .i64 dq, .int .i64 dop, .string did, .string dnm, .string dak, .string dvl] 26)).mono HI.out.low.size))
              obtain ⟨c0, c1, c2, c3, c4, c5, c6, c7⟩ := HC.out v2 HI.out.low
              dsimp only at c0 c1 c2 c3 c4 c5 c6 c7
              go_wp2_with (at_builtin; refine app_chs (v2.alloc _) HO2.out (.tmp 47) (.tmp 52) (some ⟨v2.heap.size, 0, none⟩) 1 1 [⟨(dt, ds, dq), dop, did, dnm, dak, dvl⟩] ?_ ?_ ?_ ?_ ?_ ?_ ?_ ?_; exact rfl; exact rfl; exact rfl; exact rfl; exact HOn.out; exact (Nat.le_trans (Nat.le_succ _) HQ.out); exact HLo.out.size; intro v3 W3 hownW3 hbW3)
              rw [← chcells_app] at hownW3
              go_roundw
              case rel => exact ⟨i + 1, by omega, by go_num, by rw [HStep.out], Lib.hid (by rw [HStep.out]; exact ⟨HLo.out.trans hbW3, by simpa using hownW3⟩)⟩
              case measure => simp [intOf]; omega
          · have dp : decide (0 < x) = false := decide_eq_false hp
            have hgt : ¬ ltC (t, s, q) (dt, ds, dq) := fun k => hp (by rw [← HX.out]; exact Csn.cmpC_gt.2 k)
            have HStep := Lib.hid (show (l.take (i + 1)).foldl (adS ⟨(t, s, q), op, id, nm, ak, vl⟩) ([], false) = (out ++ [⟨(dt, ds, dq), dop, did, dnm, dak, dvl⟩], dn) from by rw [HNx.out]; unfold adS; rw [if_neg hne, if_neg (fun k => hgt k.1)])
            clear hne hgt hx0
            have HOn := Lib.hid (ch_one v2 ⟨(dt, ds, dq), dop, did, dnm, dak, dvl⟩)
            rw [chB_is] at HOn
            have HO2 := Lib.hid (own_below HI.out.own (box_below v2 (.cells #[.int .i64 dt, .int .i64 ds, .int .i64 dq, .int .i64 dop, .string did, .string dnm, .string dak, .string dvl] 26)))
            have HLo := Lib.hid (show Below w1.heap.size w1 (v2.alloc (.cells #[.int .i64 dt, .int .i64 ds, .int .i64 dq, .int .i64 dop, .string did, .string dnm, .string dak, .string dvl] 26)) from HI.out.low.trans ((box_below v2 (.cells #[.int .i64 dt, .int .i64 ds, .int .i64 dq, .int .i64 dop, .string did, .string dnm, .string dak, .string dvl] 26)).mono HI.out.low.size))
            obtain ⟨c0, c1, c2, c3, c4, c5, c6, c7⟩ := HC.out v2 HI.out.low
            dsimp only at c0 c1 c2 c3 c4 c5 c6 c7
            go_wp2_with (at_builtin; refine app_chs (v2.alloc _) HO2.out (.tmp 47) (.tmp 52) (some ⟨v2.heap.size, 0, none⟩) 1 1 [⟨(dt, ds, dq), dop, did, dnm, dak, dvl⟩] ?_ ?_ ?_ ?_ ?_ ?_ ?_ ?_; exact rfl; exact rfl; exact rfl; exact rfl; exact HOn.out; exact (Nat.le_trans (Nat.le_succ _) HQ.out); exact HLo.out.size; intro v3 W3 hownW3 hbW3)
            rw [← chcells_app] at hownW3
            go_roundw
            case rel => exact ⟨i + 1, by omega, by go_num, by rw [HStep.out], Lib.hid (by rw [HStep.out]; exact ⟨HLo.out.trans hbW3, by simpa using hownW3⟩)⟩
            case measure => simp [intOf]; omega
      · have e1 : ¬ (i : Int) < (n : Int) := by omega
        obtain rfl : i = n := by omega
        have HE := Lib.hid (show l.take i = l from List.take_of_length_le (by rw [HN.out]; exact Nat.le_refl _))
        have HF := Lib.hid (ad_all ⟨(t, s, q), op, id, nm, ak, vl⟩ HA.out)
        rw [HE.out] at HI
        obtain ⟨⟨out, dn⟩, hst⟩ : ∃ x, l.foldl (adS ⟨(t, s, q), op, id, nm, ak, vl⟩) ([], false) = x := ⟨_, rfl⟩
        rw [hst] at HI HF
        simp only [HE.out, hst]
        cases dn
        · have HR := Lib.hid (show addG l ⟨(t, s, q), op, id, nm, ak, vl⟩ = out ++ [⟨(t, s, q), op, id, nm, ak, vl⟩] from HAd.out.trans HF.out.symm)
          have HQ := Lib.hid (show out.length + 1 ≤ 1000000000 from by have h1 := ad_len (g := ⟨(t, s, q), op, id, nm, ak, vl⟩) l ([], false); rw [hst] at h1; have := HN.out; simp only [List.length_nil] at h1; omega)
          clear hst
          have HOn := Lib.hid (ch_one wr ⟨(t, s, q), op, id, nm, ak, vl⟩)
          rw [chB_is] at HOn
          have HO2 := Lib.hid (own_below HI.out.own (box_below wr (.cells #[.int .i64 t, .int .i64 s, .int .i64 q, .int .i64 op, .string id, .string nm, .string ak, .string vl] 26)))
          have HLo := Lib.hid (show Below w1.heap.size w1 (wr.alloc (.cells #[.int .i64 t, .int .i64 s, .int .i64 q, .int .i64 op, .string id, .string nm, .string ak, .string vl] 26)) from HI.out.low.trans ((box_below wr (.cells #[.int .i64 t, .int .i64 s, .int .i64 q, .int .i64 op, .string id, .string nm, .string ak, .string vl] 26)).mono HI.out.low.size))
          have b0 := Csn.KbC.cell (i := 0) (HKk.out wr HI.out.low) rfl
          have b1 := Csn.KbC.cell (i := 1) (HKk.out wr HI.out.low) rfl
          have b2 := Csn.KbC.cell (i := 2) (HKk.out wr HI.out.low) rfl
          have b3 := Csn.KbC.cell (i := 3) (HKk.out wr HI.out.low) rfl
          have b4 := Csn.KbC.cell (i := 4) (HKk.out wr HI.out.low) rfl
          have b5 := Csn.KbC.cell (i := 5) (HKk.out wr HI.out.low) rfl
          have b6 := Csn.KbC.cell (i := 6) (HKk.out wr HI.out.low) rfl
          have b7 := Csn.KbC.cell (i := 7) (HKk.out wr HI.out.low) rfl
          go_wp2_with (at_builtin; refine app_chs (wr.alloc _) HO2.out (.tmp 78) (.tmp 80) (some ⟨wr.heap.size, 0, none⟩) 1 1 [⟨(t, s, q), op, id, nm, ak, vl⟩] ?_ ?_ ?_ ?_ ?_ ?_ ?_ ?_; exact rfl; exact rfl; exact rfl; exact rfl; exact HOn.out; exact HQ.out; exact HLo.out.size; intro v3 W3 hownW3 hbW3)
          rw [← chcells_app] at hownW3
          obtain ⟨xo, xc, rfl, hat⟩ := chs_of_owns (ps := out ++ [⟨(t, s, q), op, id, nm, ak, vl⟩]) hownW3
          have HR2 := Lib.hid hat
          clear hat hownW3
          go_ret
          exact ⟨_, _, _, rfl, by rw [HR.out]; exact HR2.out, HB1.out.trans ((HLo.out.trans hbW3).mono HB1.out.size)⟩
        · have HR := Lib.hid (show addG l ⟨(t, s, q), op, id, nm, ak, vl⟩ = out from HAd.out.trans HF.out.symm)
          obtain ⟨xo, xc, hv, hat⟩ := chs_of_owns HI.out.own
          subst hv
          have HR2 := Lib.hid hat
          clear hat hst
          go_wp2_with fail
          go_ret
          exact ⟨_, _, _, rfl, by rw [HR.out]; exact HR2.out, HB1.out.trans (HI.out.low.mono HB1.out.size)⟩
  · have q0 : (cg != 0) = true := by simpa using h0
    have HAd := Lib.hid (show addG l ⟨(t, s, q), op, id, nm, ak, vl⟩ = l from by unfold addG; rw [if_neg (by rw [HGc.out.2]; exact h0)])
    clear h0
    go_wp2_with fail
    go_ret
    exact ⟨ao, n, cap, rfl, by rw [HAd.out]; exact HL.out.below HB1.out, HB1.out⟩
end Go.Proofs.YtbkignlbcneddaaGreatDoor
end
