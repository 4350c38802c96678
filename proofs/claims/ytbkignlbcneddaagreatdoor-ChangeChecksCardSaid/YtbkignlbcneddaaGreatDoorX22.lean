/-
  Texts of the schema layer and of those beneath it, joined: ChgR2, ChgRe, ChgAe, ChgMr, ChgMap. Conditions stand at each contract.
-/
import Derived.DeepKeys4
import Derived.Test.YtbkignlbcneddaaGreatDoorX03
import Derived.Test.YtbkignlbcneddaaGreatDoorX08
import Derived.Test.YtbkignlbcneddaaGreatDoorX12
import Derived.Test.YtbkignlbcneddaaGreatDoorX13
import Derived.Test.YtbkignlbcneddaaGreatDoorX14
import Derived.Test.YtbkignlbcneddaaGreatDoorX15
import Derived.Test.YtbkignlbcneddaaGreatDoorX18
import Derived.Test.YtbkignlbcneddaaGreatDoorX20
import Derived.Test.YtbkignlbcneddaaGreatDoorX21
set_option linter.unusedVariables false
set_option linter.unusedSimpArgs false
set_option linter.unnecessarySimpa false

section
/-
  Contracts of change's readWords and Parse. Conditions: words of at most 1000000 bytes, at most 1100001 of them; a text of at most 1000000 bytes.
-/
set_option maxRecDepth 100000
namespace Go.Proofs.YtbkignlbcneddaaGreatDoor
open Go.RowKit Go.PlainAid
open Csn (Cn cnV cnB KbC kbc_new box_below box_lt parEC parVC vldC fmtS TzOk)
set_option maxHeartbeats 4000000 in
theorem readWordsF_s (ao : Option Addr) (n cap : Nat) (ws : List ByteArray) (w : World) (h : StrsAt w ao n cap ws) (h3 : n < 3) :
    Calls Tryz.prog 46 #[.slice ao n cap] w fun e w' => e = .returned (.tuple #[chV ((recG ws).getD zeroG), .bool (recG ws).isSome]) ∧ Below w.heap.size w w' := by
  have HR := Lib.hid (rec_few (ws := ws) (by rw [h.1]; exact h3))
  have HK := Lib.hid (kbc_new w (chB zeroG))
  have HB := Lib.hid (box_below w (chB zeroG))
  rw [zero_is] at HK HB
  have d3 : (n : Int) < 3 := by omega
  clear h
  go_enter Tryz.func46, Tryz.ntmps46
  go_wp2_with fail
  try simp only [Exit.inBlock, Exit.then]
  refine bodyPost_ret (readWords_results _ _ _ _ _ rfl HK.out rfl) rfl ?_
  exact ⟨by rw [HR.out]; rfl, HB.out⟩
theorem readWords_s (ao : Option Addr) (n cap : Nat) (ws : List ByteArray) (w : World) (h : StrsAt w ao n cap ws) (hn : n ≤ 1100001) (hz : ∀ s ∈ ws, s.size ≤ 1000000) (ho : COk w) :
    Calls Tryz.prog 46 #[.slice ao n cap] w fun e w' => e = .returned (.tuple #[chV ((recG ws).getD zeroG), .bool (recG ws).isSome]) ∧ Below w.heap.size w w' := by
  rcases Nat.lt_or_ge n 3 with h3 | h3
  · exact readWordsF_s ao n cap ws w h h3
  · cases hN : useN (opW (partAt ws 0))
    · cases hV : useV (opW (partAt ws 0))
      · exact readWords0_s ao n cap ws w h h3 hn hz ho hN hV
      · exact readWordsV_s ao n cap ws w h h3 hn hz ho hV
    · exact readWordsN_s ao n cap ws w h h3 hn hz ho hN
theorem readWords_k (g : Chg) (b : Bool) (ao : Option Addr) (n cap : Nat) (ws : List ByteArray) (w : World) (h : StrsAt w ao n cap ws) (hn : n ≤ 1100001) (hz : ∀ s ∈ ws, s.size ≤ 1000000) (ho : COk w) (hg : (recG ws).getD zeroG = g) (hb : (recG ws).isSome = b) :
    Calls Tryz.prog 46 #[.slice ao n cap] w fun e w' => e = .returned (.tuple #[chV g, .bool b]) ∧ Below w.heap.size w w' := by subst hg hb; exact readWords_s ao n cap ws w h hn hz ho
theorem uns_size (s : ByteArray) : (unS s).size ≤ s.size := by
  unfold unS
  cases e : unesc s.data.toList with
  | none => exact Nat.zero_le _
  | some x =>
    have h1 := unesc_le _ _ e
    rw [show s.data.toList.length = s.size from Array.length_toList] at h1
    show (⟨x.toArray⟩ : ByteArray).size ≤ _
    rw [Lib.size_mk]; exact h1
theorem rec_small {ws : List ByteArray} {g : Chg} (h : recG ws = some g) {z : Nat} (hz : ∀ s ∈ ws, s.size ≤ z) : g.id.size ≤ z ∧ g.nm.size ≤ z ∧ g.ak.size ≤ z ∧ g.vl.size ≤ z := by
  have h0 : nilS.size ≤ z := Nat.zero_le _
  match ws, h, hz with
  | a :: b :: i :: r, h, hz =>
    have hi := hz i (by simp)
    unfold recG at h
    simp only at h
    by_cases hp : parEC b.data.toList = 0
    · rw [if_neg (fun k => k hp)] at h
      match r, h, hz with
      | [], h, hz => simp only at h; split at h <;> cases h; exact ⟨hi, h0, h0, h0⟩
      | [x], h, hz => simp only at h; split at h <;> cases h; exact ⟨hi, Nat.le_trans (uns_size x) (hz x (by simp)), h0, h0⟩
      | [x, y], h, hz => simp only at h; split at h <;> cases h; exact ⟨hi, h0, Nat.le_trans (uns_size x) (hz x (by simp)), Nat.le_trans (uns_size y) (hz y (by simp))⟩
      | _ :: _ :: _ :: _, h, hz => cases h
    · rw [if_pos hp] at h; cases h
theorem rec_sm {ws : List ByteArray} (hz : ∀ s ∈ ws, s.size ≤ 1000000) : SmG ((recG ws).getD zeroG) := by
  cases e : recG ws with
  | none => exact ⟨Nat.zero_le _, Nat.zero_le _, Nat.zero_le _, Nat.zero_le _⟩
  | some g => have := rec_small e hz; exact ⟨this.1, this.2.1, this.2.2.1, this.2.2.2⟩
theorem parse_results (tmps : Array Value) (b : Nat) (cs : Array Value) (t : TypeId) (W : World) (hp : tmps.getD 2 undef = .pointer (some ⟨b, 0, none⟩)) (h : KbC W b (.cells cs t)) (h8 : cs.size = 8) :
    (results Tryz.f15 tmps).run Tryz.prog W = .ok (.tuple #[.agg cs, tmps.getD 3 undef]) W := by
  rw [results_cell_tmp rfl, hp]
  have hl := run_loadVar_row (P := Tryz.prog) W b t 26 cs (0, 0) _ h (by rfl) (by rfl) (by rw [h8]; rfl)
  simp [asAddr, Result.andThen, hl]
/-- what Parse returns -/
theorem par_no {s : ByteArray} (h : (recG (partsB 32 s)).isSome = false) : parG s = none := by
  unfold parG
  cases e : recG (partsB 32 s) with
  | none => rfl
  | some g => rw [e] at h; cases h
theorem par_bad {s : ByteArray} (h : chkG ((recG (partsB 32 s)).getD zeroG) ≠ 0) : parG s = none := by
  unfold parG
  cases e : recG (partsB 32 s) with
  | none => rfl
  | some g => rw [e] at h; exact if_neg h
theorem par_yes {s : ByteArray} (h : (recG (partsB 32 s)).isSome = true) (hc : chkG ((recG (partsB 32 s)).getD zeroG) = 0) : parG s = some ((recG (partsB 32 s)).getD zeroG) := by
  unfold parG
  cases e : recG (partsB 32 s) with
  | none => rw [e] at h; cases h
  | some g => rw [e] at hc; exact if_pos hc
def parE (s : ByteArray) : Int := if (parG s).isSome then 0 else 4
/-- what is kept while a line is read: the result's box, how far the world has gone, the variables -/
structure PaP (w : World) (b2 : Nat) (W : World) : Prop where
  low : Below w.heap.size w W
  res : KbC W b2 (chB zeroG)
  ok : COk W
theorem PaP.step {w W X : World} {b2 : Nat} (h : PaP w b2 W) (hb : Below W.heap.size W X) : PaP w b2 X := ⟨h.low.trans (hb.mono h.low.size), Csn.KbC.step h.res hb, h.ok.step hb⟩
set_option maxHeartbeats 16000000 in
theorem parse_s (s : ByteArray) (w : World) (hs : s.size ≤ 1000000) (ho : COk w) :
    Calls Tryz.prog 15 #[.string s] w fun e w' => e = .returned (.tuple #[chV ((parG s).getD zeroG), .int .i64 (parE s)]) ∧ Below w.heap.size w w' := by
  have HP := Lib.hid (show PaP w w.heap.size (w.alloc (chB zeroG)) from ⟨box_below w _, kbc_new w _, ho.step (box_below w _)⟩)
  have HS := Lib.hid hs
  have HZ := Lib.hid (show ∀ x ∈ partsB 32 s, x.size ≤ 1000000 from fun x hx => Nat.le_trans (partsB_small hx) hs)
  have HN := Lib.hid (show (partsB 32 s).length ≤ 1100001 from by have := partsB_le 32 s; omega)
  obtain ⟨g, hg⟩ : ∃ x, (recG (partsB 32 s)).getD zeroG = x := ⟨_, rfl⟩
  obtain ⟨y, hy⟩ : ∃ x, (recG (partsB 32 s)).isSome = x := ⟨_, rfl⟩
  have HM := Lib.hid (show SmG g from by rw [← hg]; exact rec_sm HZ.out)
  have HG := Lib.hid (And.intro hg hy)
  clear hs ho hg hy
  rw [zero_is] at HP
  go_enter Tryz.func15, Tryz.ntmps15
  go_wp2_with fail
  have hx : Hid (PaP w w.heap.size (w.alloc (.cells #[.int .i64 0, .int .i64 0, .int .i64 0, .int .i64 0, .string ⟨#[]⟩, .string ⟨#[]⟩, .string ⟨#[]⟩, .string ⟨#[]⟩] 26))) := HP
  clear HP
  generalize w.alloc (.cells #[.int .i64 0, .int .i64 0, .int .i64 0, .int .i64 0, .string ⟨#[]⟩, .string ⟨#[]⟩, .string ⟨#[]⟩, .string ⟨#[]⟩] 26) = W0 at hx ⊢
  have HP := hx
  clear hx
  refine (splitF_s 32 s W0 (Nat.le_trans HS.out (by decide)) HP.out.ok.mx).mono ?_
  rintro e w1 ⟨rfl, hst, hb⟩
  have HP := Lib.hid (HP.out.step hb)
  have HSt := Lib.hid hst
  clear hb hst
  go_wp2_with fail
  refine (readWords_k g y _ _ _ _ w1 HSt.out HN.out HZ.out HP.out.ok HG.out.1 HG.out.2).mono ?_
  rintro e w2 ⟨rfl, hb⟩
  have HP := Lib.hid (HP.out.step hb)
  clear hb
  obtain ⟨⟨ca, cb, cc⟩, o, i, nm, ak, vl⟩ := g
  rw [chV_is]
  have HB4 := Lib.hid (box_below w2 (chB ⟨(ca, cb, cc), o, i, nm, ak, vl⟩))
  have HK4 := Lib.hid (kbc_new w2 (chB ⟨(ca, cb, cc), o, i, nm, ak, vl⟩))
  rw [chB_is] at HB4 HK4
  have HL := Lib.hid (Csn.KbC.big HP.out.res)
  have HP4 := Lib.hid (HP.out.step HB4.out)
  cases y
  · have HE := Lib.hid (show parG s = none ∧ parE s = 4 from by have := par_no HG.out.2; exact ⟨this, by unfold parE; rw [this]; rfl⟩)
    have gf : ∀ j, (w2.alloc (.cells #[.int .i64 ca, .int .i64 cb, .int .i64 cc, .int .i64 o, .string i, .string nm, .string ak, .string vl] 26)).frozen? ⟨w.heap.size, j, none⟩ = false := fun j => Csn.KbC.frz HP4.out.res
    have HG8 : Hid (KbC (w2.alloc (.cells #[.int .i64 ca, .int .i64 cb, .int .i64 cc, .int .i64 o, .string i, .string nm, .string ak, .string vl] 26)) w.heap.size (.cells #[.int .i64 0, .int .i64 0, .int .i64 0, .int .i64 0, .string ⟨#[]⟩, .string ⟨#[]⟩, .string ⟨#[]⟩, .string ⟨#[]⟩] 26)) := Lib.hid (zero_is ▸ HP4.out.res)
    have g0 := Csn.KbC.cell (i := 0) HG8.out rfl
    have g1 := Csn.KbC.cell (i := 1) HG8.out rfl
    have g2 := Csn.KbC.cell (i := 2) HG8.out rfl
    have g3 := Csn.KbC.cell (i := 3) HG8.out rfl
    have g4 := Csn.KbC.cell (i := 4) HG8.out rfl
    have g5 := Csn.KbC.cell (i := 5) HG8.out rfl
    have g6 := Csn.KbC.cell (i := 6) HG8.out rfl
    have g7 := Csn.KbC.cell (i := 7) HG8.out rfl
    go_wp2_with fail
    try simp only [Exit.inBlock, Exit.then]
    refine bodyPost_ret (parse_results _ _ _ _ _ rfl (kbc_set8 HG8.out) rfl) rfl ?_
    exact ⟨by rw [HE.out.1, HE.out.2]; rfl, below_set8 HP4.out.low (Nat.le_refl _) _ _ _ _ _ _ _ _⟩
  · obtain ⟨cz, hcz⟩ : ∃ x, chkG ⟨(ca, cb, cc), o, i, nm, ak, vl⟩ = x := ⟨_, rfl⟩
    have HCk := Lib.hid (fun V (hV : MaxOk V) => chkg_s ⟨(ca, cb, cc), o, i, nm, ak, vl⟩ V HM.out hV)
    rw [hcz, chV_is] at HCk
    have HCz := Lib.hid hcz
    clear hcz
    have c0 := Csn.KbC.cell (i := 0) HK4.out rfl
    have c1 := Csn.KbC.cell (i := 1) HK4.out rfl
    have c2 := Csn.KbC.cell (i := 2) HK4.out rfl
    have c3 := Csn.KbC.cell (i := 3) HK4.out rfl
    have c4 := Csn.KbC.cell (i := 4) HK4.out rfl
    have c5 := Csn.KbC.cell (i := 5) HK4.out rfl
    have c6 := Csn.KbC.cell (i := 6) HK4.out rfl
    have c7 := Csn.KbC.cell (i := 7) HK4.out rfl
    go_wp2_with fail
    clear c0 c1 c2 c3 c4 c5 c6 c7
    generalize w2.alloc (.cells #[.int .i64 ca, .int .i64 cb, .int .i64 cc, .int .i64 o, .string i, .string nm, .string ak, .string vl] 26) = W4 at HP4 HK4 HB4 ⊢
    refine (HCk.out W4 HP4.out.ok.mx).mono ?_
    rintro e w3 ⟨rfl, hb⟩
    have HP5 := Lib.hid (HP4.out.step hb)
    have HK5 := Lib.hid (Csn.KbC.step HK4.out hb)
    clear hb
    have gf : ∀ j, (w3).frozen? ⟨w.heap.size, j, none⟩ = false := fun j => Csn.KbC.frz HP5.out.res
    have HG8 : Hid (KbC (w3) w.heap.size (.cells #[.int .i64 0, .int .i64 0, .int .i64 0, .int .i64 0, .string ⟨#[]⟩, .string ⟨#[]⟩, .string ⟨#[]⟩, .string ⟨#[]⟩] 26)) := Lib.hid (zero_is ▸ HP5.out.res)
    have g0 := Csn.KbC.cell (i := 0) HG8.out rfl
    have g1 := Csn.KbC.cell (i := 1) HG8.out rfl
    have g2 := Csn.KbC.cell (i := 2) HG8.out rfl
    have g3 := Csn.KbC.cell (i := 3) HG8.out rfl
    have g4 := Csn.KbC.cell (i := 4) HG8.out rfl
    have g5 := Csn.KbC.cell (i := 5) HG8.out rfl
    have g6 := Csn.KbC.cell (i := 6) HG8.out rfl
    have g7 := Csn.KbC.cell (i := 7) HG8.out rfl
    by_cases h0 : cz = 0
    · have d0 : (cz != 0) = false := by rw [h0]; rfl
      have HE := Lib.hid (show parG s = some ⟨(ca, cb, cc), o, i, nm, ak, vl⟩ ∧ parE s = 0 from by have := par_yes HG.out.2 (by rw [HG.out.1, HCz.out]; exact h0); rw [HG.out.1] at this; exact ⟨this, by unfold parE; rw [this]; rfl⟩)
      clear h0
      have c0 := Csn.KbC.cell (i := 0) HK5.out rfl
      have c1 := Csn.KbC.cell (i := 1) HK5.out rfl
      have c2 := Csn.KbC.cell (i := 2) HK5.out rfl
      have c3 := Csn.KbC.cell (i := 3) HK5.out rfl
      have c4 := Csn.KbC.cell (i := 4) HK5.out rfl
      have c5 := Csn.KbC.cell (i := 5) HK5.out rfl
      have c6 := Csn.KbC.cell (i := 6) HK5.out rfl
      have c7 := Csn.KbC.cell (i := 7) HK5.out rfl
      go_wp2_with fail
      try simp only [Exit.inBlock, Exit.then]
      refine bodyPost_ret (parse_results _ _ _ _ _ rfl (kbc_set8 HG8.out) rfl) rfl ?_
      exact ⟨by rw [HE.out.1, HE.out.2]; rfl, below_set8 HP5.out.low (Nat.le_refl _) _ _ _ _ _ _ _ _⟩
    · have d0 : (cz != 0) = true := by simpa using h0
      have HE := Lib.hid (show parG s = none ∧ parE s = 4 from by have := par_bad (s := s) (by rw [HG.out.1, HCz.out]; exact h0); exact ⟨this, by unfold parE; rw [this]; rfl⟩)
      clear h0
      go_wp2_with fail
      try simp only [Exit.inBlock, Exit.then]
      refine bodyPost_ret (parse_results _ _ _ _ _ rfl (kbc_set8 HG8.out) rfl) rfl ?_
      exact ⟨by rw [HE.out.1, HE.out.2]; rfl, below_set8 HP5.out.low (Nat.le_refl _) _ _ _ _ _ _ _ _⟩
end Go.Proofs.YtbkignlbcneddaaGreatDoor
end

section
/-
  Contract of change.Read. Condition: a text of at most 1000000 bytes.
-/
set_option maxRecDepth 100000
namespace Go.Proofs.YtbkignlbcneddaaGreatDoor
open Go.RowKit Go.PlainAid
open Csn (Cn cnV cnB KbC kbc_new box_below box_lt parEC parVC vldC fmtS TzOk)
theorem ch_one (W : World) (g : Chg) : ChsAt (W.alloc (chB g)) (some ⟨W.heap.size, 0, none⟩) 1 1 [g] :=
  ⟨rfl, Nat.le_refl _, by decide, fun _ => ⟨_, 0, rfl, by simp, fun j hj k hk => by
    obtain rfl : j = 0 := by simpa using hj
    have h : KbC (W.alloc (chB g)) W.heap.size (chB g) := kbc_new W _
    have e : gA [g] 0 = g := rfl
    rw [e]
    have hv : (gcells g).toArray[k]? = (gcells g)[k]? := by simp
    refine (Lib.hid ?_ : Hid _).out
    unfold World.cell?
    rw [show (W.alloc (chB g)).heap[W.heap.size]? = some (chB g) from h]
    unfold chB
    simp⟩, fun e => by cases e⟩
/-- what the loop keeps: what is left of the text, the records so far -/
structure RdI (w : World) (s : ByteArray) (k : Nat) (u : ByteArray) (out : List Chg) (v : Value) (W : World) : Prop where
  low : Below w.heap.size w W
  own : W.ownsRow w.heap.size 26 8 v out.length (chcells out)
  ok : COk W
  eq : rdG s = readN k u out
  sz : u.size ≤ k
  us : u.size ≤ s.size
  len : out.length ≤ 4096
theorem RdI.step {w W X : World} {s u : ByteArray} {k : Nat} {out : List Chg} {v : Value} (h : RdI w s k u out v W) (hb : Below W.heap.size W X) : RdI w s k u out v X :=
  ⟨h.low.trans (hb.mono h.low.size), own_below h.own hb, h.ok.step hb, h.eq, h.sz, h.us, h.len⟩
theorem rd_end {k : Nat} {u : ByteArray} {out : List Chg} (h : u.size = 0) : readN k u out = (out, 0, 0) := by
  cases k with
  | zero => rfl
  | succ k => exact if_pos h
theorem rd_many {k : Nat} {u : ByteArray} {out : List Chg} (hk : u.size ≤ k) (h : u.size ≠ 0) (hl : 4096 ≤ out.length) : readN k u out = ([], (out.length : Int) + 1, 3) := by
  cases k with
  | zero => omega
  | succ k => unfold readN; rw [if_neg h, if_pos hl]
theorem rd_open {k : Nat} {u : ByteArray} {out : List Chg} (hk : u.size ≤ k) (h : u.size ≠ 0) (hl : ¬ 4096 ≤ out.length) (hc : cutOk u ⟨#[10]⟩ = false) : readN k u out = ([], (out.length : Int) + 1, 31) := by
  cases k with
  | zero => omega
  | succ k => unfold readN; rw [if_neg h, if_neg hl, if_pos hc]
theorem rd_wrong {k : Nat} {u : ByteArray} {out : List Chg} (hk : u.size ≤ k) (h : u.size ≠ 0) (hl : ¬ 4096 ≤ out.length) (hc : cutOk u ⟨#[10]⟩ = true) (hp : parG (cutBef u ⟨#[10]⟩) = none) : readN k u out = ([], (out.length : Int) + 1, 4) := by
  cases k with
  | zero => omega
  | succ k => unfold readN; rw [if_neg h, if_neg hl, if_neg (by rw [hc]; simp), hp]
theorem rd_on {k : Nat} {u : ByteArray} {out : List Chg} {g : Chg} (hk : u.size ≤ k) (h : u.size ≠ 0) (hl : ¬ 4096 ≤ out.length) (hc : cutOk u ⟨#[10]⟩ = true) (hp : parG (cutBef u ⟨#[10]⟩) = some g) :
    readN k u out = readN (k - 1) (cutAft u ⟨#[10]⟩) (out ++ [g]) ∧ (cutAft u ⟨#[10]⟩).size ≤ k - 1 ∧ (cutAft u ⟨#[10]⟩).size < u.size := by
  have hlt := cut_lt hc
  cases k with
  | zero => omega
  | succ k => exact ⟨by rw [show k + 1 - 1 = k from rfl]; conv => lhs; unfold readN; rw [if_neg h, if_neg hl, if_neg (by rw [hc]; simp), hp], by omega, hlt⟩
theorem cutB_size (u : ByteArray) : (cutBef u ⟨#[10]⟩).size ≤ u.size := by
  rcases cut_one u 10 with h | h
  · exact h.2.2.2.1
  · rw [h.2.2.1]; exact Nat.le_refl _
theorem parsek (s : ByteArray) (g : Chg) (c : Int) (w : World) (hs : s.size ≤ 1000000) (ho : COk w) (hg : (parG s).getD zeroG = g) (hc : parE s = c) :
    Calls Tryz.prog 15 #[.string s] w fun e w' => e = .returned (.tuple #[chV g, .int .i64 c]) ∧ Below w.heap.size w w' := by subst hg hc; exact parse_s s w hs ho
theorem parE_or (s : ByteArray) : (parG s = none ∧ parE s = 4) ∨ (∃ g, parG s = some g ∧ parE s = 0) := by
  unfold parE
  cases parG s with
  | none => exact .inl ⟨rfl, rfl⟩
  | some g => exact .inr ⟨g, rfl, rfl⟩
set_option maxHeartbeats 16000000 in
theorem chread_s (s : ByteArray) (w : World) (hs : s.size ≤ 1000000) (ho : COk w) :
    Calls Tryz.prog 21 #[.string s] w fun e w' => ∃ v, e = .returned (.tuple #[v, .int .i64 (rdG s).2.1, .int .i64 (rdG s).2.2]) ∧ w'.ownsRow w.heap.size 26 8 v (rdG s).1.length (chcells (rdG s).1) ∧ Below w.heap.size w w' := by
  have HS := Lib.hid hs
  have HO := Lib.hid ho
  have HI := Lib.hid (show RdI w s s.size s [] (.slice none 0 0) w from ⟨Below.refl _ _, World.ownsRow_nil _ _ _ _, ho, rfl, Nat.le_refl _, Nat.le_refl _, by simp⟩)
  have HNl := Lib.hid (fun (V : World) => (World.ownsRow_nil V w.heap.size 26 8 : V.ownsRow w.heap.size 26 8 (.slice none 0 0) ([] : List Chg).length (chcells [])))
  clear hs ho
  go_enter Tryz.func21, Tryz.ntmps21
  go_wp2_with fail
  go_loopw [0, 5, 6, 7, 8, 9, 10, 11] (fun uv lv nv _ _ _ _ _ wr => ∃ (k : Nat) (u : ByteArray) (out : List Chg), uv = .string u ∧ nv = .int .i64 ((out.length : Int) + 1) ∧ Hid (RdI w s k u out lv wr)) (fun uv _ _ _ _ _ _ _ _ => match uv with | .string u => u.size | _ => 0)
  case atStart => exact ⟨s.size, s, [], rfl, rfl, HI⟩
  case round =>
    clear HI
    obtain ⟨k, u, out, rfl, rfl, HI⟩ := hrel
    have HU := Lib.hid (Nat.le_trans HI.out.us HS.out)
    have hq := nil_ne u
    by_cases h0 : u = nilS
    · rw [decide_eq_false (fun k => k h0)] at hq
      have HE := Lib.hid (show rdG s = (out, 0, 0) from HI.out.eq.trans (rd_end (by rw [h0]; rfl)))
      have he := nil_emp u
      rw [decide_eq_true h0] at he
      clear h0
      go_wp2_with fail
      all_goals
        try simp only [Exit.inBlock, Exit.then]
        refine bodyPost_ret (results_tmp3 rfl _ _ _) rfl ?_
        exact ⟨_, by rw [HE.out]; rfl, by rw [HE.out]; exact HI.out.own, HI.out.low⟩
    · rw [decide_eq_true h0] at hq
      have he := nil_emp u
      rw [decide_eq_false h0] at he
      have HZ := Lib.hid (show u.size ≠ 0 from fun e => h0 (ba_ext (by rw [size_nil e]; rfl)))
      clear h0
      obtain ⟨x, hx⟩ : ∃ x, cutBef u ⟨#[10]⟩ = x := ⟨_, rfl⟩
      obtain ⟨y, hy⟩ : ∃ x, cutAft u ⟨#[10]⟩ = x := ⟨_, rfl⟩
      obtain ⟨z, hz⟩ : ∃ x, cutOk u ⟨#[10]⟩ = x := ⟨_, rfl⟩
      have HX := Lib.hid (And.intro hx (And.intro hy hz))
      have HC := Lib.hid (cut_b u 10 wr (by have := HU.out; omega) HI.out.ok.mx)
      rw [hx, hy, hz] at HC
      clear hx hy hz
      go_wp2_with fail
      refine HC.out.mono ?_
      rintro e w1 ⟨rfl, hb⟩
      have HI := Lib.hid (HI.out.step hb)
      clear hb
      by_cases h1 : 4096 ≤ out.length
      · have d1 : (4096 : Int) < (out.length : Int) + 1 := by omega
        have HE := Lib.hid (HI.out.eq.trans (rd_many HI.out.sz HZ.out h1))
        clear h1
        go_wp2_with fail
        try simp only [Exit.inBlock, Exit.then]
        refine bodyPost_ret (results_tmp3 rfl _ _ _) rfl ?_
        exact ⟨.slice none 0 0, by rw [HE.out]; rfl, by rw [HE.out]; exact HNl.out _, HI.out.low⟩
      · have d1 : ¬ (4096 : Int) < (out.length : Int) + 1 := by omega
        have H1 := Lib.hid h1
        clear h1
        cases z
        · have HE := Lib.hid (HI.out.eq.trans (rd_open HI.out.sz HZ.out H1.out HX.out.2.2))
          go_wp2_with fail
          try simp only [Exit.inBlock, Exit.then]
          refine bodyPost_ret (results_tmp3 rfl _ _ _) rfl ?_
          exact ⟨.slice none 0 0, by rw [HE.out]; rfl, by rw [HE.out]; exact HNl.out _, HI.out.low⟩
        · obtain ⟨g, hg⟩ : ∃ v, (parG x).getD zeroG = v := ⟨_, rfl⟩
          obtain ⟨c, hc⟩ : ∃ v, parE x = v := ⟨_, rfl⟩
          have HC1 := Lib.hid (parsek x g c w1 (by rw [← HX.out.1]; exact Nat.le_trans (cutB_size u) HU.out) HI.out.ok hg hc)
          have HG := Lib.hid (And.intro hg hc)
          clear hg hc
          obtain ⟨⟨t, q, r⟩, o, id, nm, a, vl⟩ := g
          rw [chV_is] at HC1
          go_wp2_with fail
          refine HC1.out.mono ?_
          rintro e w2 ⟨rfl, hb⟩
          have HI := Lib.hid (HI.out.step hb)
          clear hb
          have HIb := Lib.hid (HI.out.step (box_below w2 (chB ⟨(t, q, r), o, id, nm, a, vl⟩)))
          have HKb := Lib.hid (kbc_new w2 (chB ⟨(t, q, r), o, id, nm, a, vl⟩))
          rw [chB_is] at HIb HKb
          rcases parE_or x with ⟨p1, p2⟩ | ⟨g', p1, p2⟩
          · obtain rfl : c = 4 := HG.out.2.symm.trans p2
            have HE := Lib.hid (HI.out.eq.trans (rd_wrong HI.out.sz HZ.out H1.out HX.out.2.2 (by rw [HX.out.1]; exact p1)))
            clear p1 p2
            go_wp2_with fail
            try simp only [Exit.inBlock, Exit.then]
            refine bodyPost_ret (results_tmp3 rfl _ _ _) rfl ?_
            exact ⟨.slice none 0 0, by rw [HE.out]; rfl, by rw [HE.out]; exact HNl.out _, HIb.out.low⟩
          · obtain rfl : c = 0 := HG.out.2.symm.trans p2
            have HP := Lib.hid (show parG x = some ⟨(t, q, r), o, id, nm, a, vl⟩ from by rw [← HG.out.1, p1]; rfl)
            clear p1 p2
            have HE := Lib.hid (rd_on HI.out.sz HZ.out H1.out HX.out.2.2 (by rw [HX.out.1]; exact HP.out))
            rw [HX.out.2.1] at HE
            have c0 := Csn.KbC.cell (i := 0) HKb.out rfl
            have c1 := Csn.KbC.cell (i := 1) HKb.out rfl
            have c2 := Csn.KbC.cell (i := 2) HKb.out rfl
            have c3 := Csn.KbC.cell (i := 3) HKb.out rfl
            have c4 := Csn.KbC.cell (i := 4) HKb.out rfl
            have c5 := Csn.KbC.cell (i := 5) HKb.out rfl
            have c6 := Csn.KbC.cell (i := 6) HKb.out rfl
            have c7 := Csn.KbC.cell (i := 7) HKb.out rfl
            have HOn := Lib.hid (ch_one (w2.alloc (chB ⟨(t, q, r), o, id, nm, a, vl⟩)) ⟨(t, q, r), o, id, nm, a, vl⟩)
            rw [chB_is, World.size_alloc] at HOn
            have HSz := Lib.hid (show w.heap.size ≤ ((w2.alloc (.cells #[.int .i64 t, .int .i64 q, .int .i64 r, .int .i64 o, .string id, .string nm, .string a, .string vl] 26)).alloc (.cells #[.int .i64 t, .int .i64 q, .int .i64 r, .int .i64 o, .string id, .string nm, .string a, .string vl] 26)).heap.size from by have := HI.out.low.size; simp; omega)
            have HO2 := Lib.hid (own_below HIb.out.own (box_below (w2.alloc (.cells #[.int .i64 t, .int .i64 q, .int .i64 r, .int .i64 o, .string id, .string nm, .string a, .string vl] 26)) (.cells #[.int .i64 t, .int .i64 q, .int .i64 r, .int .i64 o, .string id, .string nm, .string a, .string vl] 26)))
            have HLo := Lib.hid (show Below w.heap.size w ((w2.alloc (.cells #[.int .i64 t, .int .i64 q, .int .i64 r, .int .i64 o, .string id, .string nm, .string a, .string vl] 26)).alloc (.cells #[.int .i64 t, .int .i64 q, .int .i64 r, .int .i64 o, .string id, .string nm, .string a, .string vl] 26)) from HIb.out.low.trans ((box_below _ _).mono HIb.out.low.size))
            have HOk := Lib.hid (HIb.out.ok.step (box_below (w2.alloc (.cells #[.int .i64 t, .int .i64 q, .int .i64 r, .int .i64 o, .string id, .string nm, .string a, .string vl] 26)) (.cells #[.int .i64 t, .int .i64 q, .int .i64 r, .int .i64 o, .string id, .string nm, .string a, .string vl] 26)))
            have HLe := Lib.hid (show out.length + 1 ≤ 1000000000 from by have := HI.out.len; omega)
            have HSy := Lib.hid (show y.size ≤ s.size from Nat.le_trans (Nat.le_of_lt HE.out.2.2) HI.out.us)
            have HEq := Lib.hid (HI.out.eq.trans HE.out.1)
            go_wp2_with (at_builtin; refine app_chs ((w2.alloc _).alloc _) HO2.out (.tmp 37) (.tmp 39) (some ⟨w2.heap.size + 1, 0, none⟩) 1 1 [⟨(t, q, r), o, id, nm, a, vl⟩] ?_ ?_ ?_ ?_ ?_ ?_ ?_ ?_; exact rfl; exact rfl; exact rfl; exact rfl; exact HOn.out; exact HLe.out; (show w.heap.size ≤ ((w2.heap.push _).push _).size; exact HSz.out); intro v3 W3 hown3 hb3)
            rw [← chcells_app] at hown3
            go_roundw
            case rel => exact ⟨k - 1, y, out ++ [⟨(t, q, r), o, id, nm, a, vl⟩], by go_num, by simp, Lib.hid ⟨HLo.out.trans hb3, by simpa using hown3, HOk.out.keep HO.out (Nat.le_refl _) hb3, HEq.out, HE.out.2.1, HSy.out, by have := H1.out; simp; omega⟩⟩
            case measure => exact HE.out.2.2
end Go.Proofs.YtbkignlbcneddaaGreatDoor
end

section
/-
  Contract of the reference's added. Condition: at most 100000 records without errors, strings of at most 1000000 bytes.
-/
set_option maxRecDepth 100000
namespace Go.Proofs.YtbkignlbcneddaaGreatDoor
open Go.RowKit Go.PlainAid
open Csn (Cn cnV cnB KbC kbc_new box_below box_lt parEC parVC vldC fmtS TzOk ltC cmpC)
theorem bl_dec (a b : ByteArray) : Op.bytesLess a.toList b.toList = decide (cmpS a b < 0) := by rw [less_cmp, Lib.toList_data, Lib.toList_data]; rfl
/-- what the pass keeps: the list so far, how far the world has gone -/
structure AdI (w1 : World) (out : List Chg) (v : Value) (W : World) : Prop where
  low : Below w1.heap.size w1 W
  own : W.ownsRow w1.heap.size 26 8 v out.length (chcells out)
theorem AdI.step {w1 W X : World} {out : List Chg} {v : Value} (h : AdI w1 out v W) (hb : Below W.heap.size W X) : AdI w1 out v X := ⟨h.low.trans (hb.mono h.low.size), own_below h.own hb⟩
end Go.Proofs.YtbkignlbcneddaaGreatDoor
end

section
/-
  Contract of the reference's Merge. Condition: at most 10000 records a side, strings of at most 1000000 bytes.
-/
set_option maxRecDepth 100000
namespace Go.Proofs.YtbkignlbcneddaaGreatDoor
open Go.RowKit Go.PlainAid
open Csn (Cn cnV cnB KbC kbc_new box_below box_lt parEC parVC vldC fmtS TzOk ltC cmpC)
end Go.Proofs.YtbkignlbcneddaaGreatDoor
end

section
/-
  A map whose keys are structs, that a call has made, its elements held as they are: look-up, store; at change sequence numbers and at pairs. Condition: keys of the range of int, strings of a string's length, fewer than 2^62 entries.
-/
set_option maxRecDepth 100000
namespace Go.Proofs.YtbkignlbcneddaaGreatDoor
open Go.RowKit Go.PlainAid Go.Maps
open Csn (Cn cnV)
/-- the keys of a map: their values, what they read as, which of them may be stored -/
structure KeyK (κ : Type) (k : TypeId) where
  law : Keyed Tryz.prog k
  val : κ → Value
  lit : κ → Lit
  dom : κ → Prop
  inj : ∀ x y, val x = val y → x = y
  reads : ∀ x, dom x → keyOf Tryz.prog k (val x) = some (lit x)
theorem KeyK.one {κ : Type} {k : TypeId} (K : KeyK κ k) {x y : κ} (hx : K.dom x) (hy : K.dom y) (h : K.lit x = K.lit y) : x = y :=
  K.inj x y (K.law.inj (K.reads x hx) (h ▸ K.reads y hy))
def rawH (v : Value) : Option (DataW Value × List MemPlace) := some (.held v, [])
/-- block b is a map of at most n entries that holds f x at the key x -/
def KMap {κ : Type} {k : TypeId} (K : KeyK κ k) (w : World) (b n : Nat) (f : κ → Option Value) : Prop :=
  ∃ D, w.ownsMap Tryz.prog k rawH b n D ∧ (∀ x, K.dom x → Maps.has D (K.lit x) = (f x).isSome ∧ ∀ v, f x = some v → ∀ z, D.atKey (K.lit x) z = .held v) ∧ ∀ l, Maps.has D l = true → ∃ x, K.dom x ∧ l = K.lit x
section
variable {κ : Type} {k : TypeId} {K : KeyK κ k}
theorem kmap_made (w : World) : KMap K (w.alloc (.map #[] 0)) w.heap.size 0 fun _ => none :=
  ⟨.map [], World.ownsMap_made w _ _ _, fun k _ => ⟨rfl, fun v h => by cases h⟩, fun l h => by cases h⟩
theorem KMap.lt {w : World} {b n : Nat} {f : κ → Option Value} (h : KMap K w b n f) : b < w.heap.size := by
  obtain ⟨D, h, _⟩ := h; exact h.lt
theorem KMap.kept {w w' : World} {b n : Nat} {f : κ → Option Value} {row : Option Nat} (h : KMap K w b n f) (hg : w.grownBy w' row) (hne : some b ≠ row) : KMap K w' b n f := by
  obtain ⟨D, h, hf⟩ := h; exact ⟨D, h.kept hg hne, hf⟩
theorem KMap.below {w w' : World} {b n : Nat} {f : κ → Option Value} {B : Nat} (h : KMap K w b n f) (hb : Below B w w') (hB : b < B) : KMap K w' b n f := by
  obtain ⟨D, ⟨es, clock, he, h1, h2⟩, hf⟩ := h
  exact ⟨D, ⟨es, clock, by rw [hb.block b hB]; exact he, h1, h2⟩, hf⟩
theorem KMap.mono {w : World} {b n m : Nat} {f : κ → Option Value} (h : KMap K w b n f) (hm : n ≤ m) : KMap K w b m f := by
  obtain ⟨D, h, hf⟩ := h; exact ⟨D, h.mono hm, hf⟩
theorem KMap.look_ok {w : World} {b n : Nat} {f : κ → Option Value} {t e : TypeId} {z : Value} (h : KMap K w b n f) (ht : Tryz.prog.underlying t = some (.map k e)) (hz : (zeroValue e).run Tryz.prog w = .ok z w) (x : κ) (hx : K.dom x) :
    (Instr.lookup t (.map (some b)) (K.val x) true).run Tryz.prog w = .ok (.tuple #[(f x).getD z, .bool (f x).isSome]) w := by
  obtain ⟨D, hm, hf, _⟩ := h
  obtain ⟨v, ps, hrun, hv⟩ := hm.look_ok K.law ht hz (zd := .held z) rfl (K.reads x hx)
  rw [hrun, (hf x hx).1]
  have hv2 : DataW.held v = D.atKey (K.lit x) (.held z) := by
    unfold rawH at hv
    simp only [Option.some.injEq, Prod.mk.injEq] at hv
    exact hv.1
  cases hfk : f x with
  | none =>
    have h0 := (hf x hx).1
    rw [hfk] at h0
    rw [atKey_of_not_has h0] at hv2
    injection hv2 with hv2
    rw [hv2]; rfl
  | some u =>
    rw [(hf x hx).2 u hfk] at hv2
    injection hv2 with hv2
    rw [hv2]; rfl
theorem KMap.look {w : World} {b n : Nat} {f : κ → Option Value} {t e : TypeId} {z : Value} (h : KMap K w b n f) (ht : Tryz.prog.underlying t = some (.map k e)) (hz : (zeroValue e).run Tryz.prog w = .ok z w) (x : κ) (hx : K.dom x) :
    (Instr.lookup t (.map (some b)) (K.val x) false).run Tryz.prog w = .ok ((f x).getD z) w := by
  obtain ⟨D, hm, hf, _⟩ := h
  obtain ⟨v, ps, hrun, hv⟩ := hm.lookup K.law ht hz (zd := .held z) rfl (K.reads x hx)
  rw [hrun]
  have hv2 : DataW.held v = D.atKey (K.lit x) (.held z) := by
    unfold rawH at hv
    simp only [Option.some.injEq, Prod.mk.injEq] at hv
    exact hv.1
  cases hfk : f x with
  | none =>
    have h0 := (hf x hx).1
    rw [hfk] at h0
    rw [atKey_of_not_has h0] at hv2
    injection hv2 with hv2
    rw [hv2]; rfl
  | some u =>
    rw [(hf x hx).2 u hfk] at hv2
    injection hv2 with hv2
    rw [hv2]; rfl
def setF [DecidableEq κ] (f : κ → Option Value) (x : κ) (v : Value) (j : κ) : Option Value := if j = x then some v else f j
theorem KMap.store [DecidableEq κ] {w : World} {b n : Nat} {f : κ → Option Value} {t e : TypeId} (h : KMap K w b n f) (ht : Tryz.prog.underlying t = some (.map k e)) (hn : n < maxLen) (x : κ) (hx : K.dom x) (v : Value) :
    ∃ w', (Instr.mapUpdate t (.map (some b)) (K.val x) v).run Tryz.prog w = .ok () w' ∧ KMap K w' b (n + 1) (setF f x v) ∧ w.grownBy w' (some b) := by
  obtain ⟨D, hm, hf, hd⟩ := h
  have hk := K.law.key (K.reads x hx)
  obtain ⟨w', hrun, hm', hg⟩ := hm.update K.law ht hn (K.reads x hx) (val := v) (d := .held v) (ps := []) rfl
  refine ⟨w', hrun, ⟨_, hm', fun j hj => ?_, fun l hl => ?_⟩, hg⟩
  · unfold setF
    by_cases e : j = x
    · subst e
      rw [if_pos rfl]
      refine ⟨has_put_same hm.isMap hk _, fun u hu z => ?_⟩
      obtain rfl := Option.some.inj hu
      exact atKey_put_same hm.isMap hk _ _
    · rw [if_neg e]
      have hne : K.lit j ≠ K.lit x := fun h => e (K.one hj hx h)
      exact ⟨by rw [has_put_other hne]; exact (hf j hj).1, fun u hu z => by rw [atKey_put_other hne]; exact (hf j hj).2 u hu z⟩
  · by_cases e : l = K.lit x
    · exact ⟨x, hx, e⟩
    · rw [has_put_other e] at hl
      exact hd l hl
end
/-! ### change sequence numbers, pairs -/
theorem laid_ok : laidOutB Tryz.prog = true := by kernel_rfl
def InR (n : Int) : Prop := (Lit.int .i64 n).wf = true
def cnDom (c : Cn) : Prop := InR c.1 ∧ InR c.2.1 ∧ InR c.2.2
theorem cn_law : Keyed Tryz.prog 23 := Keyed.of_law (deep_law_laid laid_ok (m := 2) (by omega) (of_decide_eq_true (by kernel_rfl)) (by kernel_rfl) (by kernel_rfl))
theorem cn_reads (c : Cn) (h : cnDom c) : keyOf Tryz.prog 23 (cnV c) = some (.string (keyBytes [.int .i64 c.1, .int .i64 c.2.1, .int .i64 c.2.2])) := by
  obtain ⟨h1, h2, h3⟩ := h
  unfold InR at h1 h2 h3
  have hu := Tryz.underlying23
  have hi := Tryz.underlying3
  have hkt : Tryz.prog.keyType 23 = true := by kernel_rfl
  have hcs : Tryz.prog.cellsOf 23 = 3 := by kernel_rfl
  have hci : Tryz.prog.cellsOf 3 = 1 := by kernel_rfl
  obtain ⟨m, hm⟩ : ∃ m, Tryz.prog.types.size = m + 1 := ⟨Tryz.prog.types.size - 1, by have : 0 < Tryz.prog.types.size := of_decide_eq_true (by kernel_rfl); omega⟩
  have hf : (cnV c).formed Tryz.prog 23 = true := by simp [cnV, Value.formed, hu, hcs]
  unfold keyOf
  rw [hu]
  simp only [hkt, hf, Bool.and_self, if_true]
  have hl : Tryz.prog.keyLits (Tryz.prog.types.size + 1) 23 (cnV c).cells.toList = some [.int .i64 c.1, .int .i64 c.2.1, .int .i64 c.2.2] := by
    rw [hm]
    simp [Program.keyLits, hu, hi, hcs, hci, cnV, Value.cells, h1, h2, h3]
  rw [hl]; rfl
def cnK : KeyK Cn 23 where
  law := cn_law
  val := cnV
  lit c := .string (keyBytes [.int .i64 c.1, .int .i64 c.2.1, .int .i64 c.2.2])
  dom := cnDom
  inj x y h := by
    unfold cnV at h
    simp only [Value.agg.injEq, Array.mk.injEq, List.cons.injEq, Value.int.injEq, true_and, and_true] at h
    exact Csn.cn_ext h.1 h.2.1 h.2.2
  reads := cn_reads
abbrev Prs := ByteArray × ByteArray
def prV (p : Prs) : Value := .agg #[.string p.1, .string p.2]
def prDom (p : Prs) : Prop := p.1.size ≤ maxLen ∧ p.2.size ≤ maxLen
theorem pr_law : Keyed Tryz.prog 143 := Keyed.of_law (deep_law_laid laid_ok (m := 2) (by omega) (of_decide_eq_true (by kernel_rfl)) (by kernel_rfl) (by kernel_rfl))
theorem pr_reads (p : Prs) (h : prDom p) : keyOf Tryz.prog 143 (prV p) = some (.string (keyBytes [.string p.1.data.toList, .string p.2.data.toList])) := by
  obtain ⟨h1, h2⟩ := h
  have hu := Tryz.underlying143
  have hi := Tryz.underlying9
  have hkt : Tryz.prog.keyType 143 = true := by kernel_rfl
  have hcs : Tryz.prog.cellsOf 143 = 2 := by kernel_rfl
  have hci : Tryz.prog.cellsOf 9 = 1 := by kernel_rfl
  obtain ⟨m, hm⟩ : ∃ m, Tryz.prog.types.size = m + 1 := ⟨Tryz.prog.types.size - 1, by have : 0 < Tryz.prog.types.size := of_decide_eq_true (by kernel_rfl); omega⟩
  have hf : (prV p).formed Tryz.prog 143 = true := by simp [prV, Value.formed, hu, hcs]
  unfold keyOf
  rw [hu]
  simp only [hkt, hf, Bool.and_self, if_true]
  have hl : Tryz.prog.keyLits (Tryz.prog.types.size + 1) 143 (prV p).cells.toList = some [.string p.1.data.toList, .string p.2.data.toList] := by
    rw [hm]
    simp [Program.keyLits, hu, hi, hcs, hci, prV, Value.cells, h1, h2]
  rw [hl]; rfl
def prK : KeyK Prs 143 where
  law := pr_law
  val := prV
  lit p := .string (keyBytes [.string p.1.data.toList, .string p.2.data.toList])
  dom := prDom
  inj x y h := by
    unfold prV at h
    simp only [Value.agg.injEq, Array.mk.injEq, List.cons.injEq, Value.string.injEq, and_true] at h
    exact Prod.ext h.1 h.2
  reads := pr_reads
end Go.Proofs.YtbkignlbcneddaaGreatDoor
end
