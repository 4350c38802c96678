/-
  Texts of the schema layer and of those beneath it, joined: EntVals, EntNvR, EntCk, SchVdR, EntNrm, EntMd, EntNrw. Conditions stand at each contract.
-/
import Derived.OneCell
import Derived.Test.YtonfkhkalodldabGreatDoorT14
set_option linter.unusedVariables false
set_option linter.unusedSimpArgs false
set_option linter.unnecessarySimpa false

section
set_option maxRecDepth 100000
namespace Go.Proofs.YtonfkhkalodldabGreatDoor
open Go.RowKit Go.PlainAid Go.Maps Go.ChangeMaps
structure NVI (T : List Ty) (n : ByteArray) (vs : List ByteArray) (w : World) (box : Obj) (k : Nat) (D : DataW Unit) (v : Value) (wr : World) : Prop where
 zero : ∀ q, q < k → nrmE T n (partAt vs q) = 0
 set : SetZ wr (w.heap.size + 1) k D (fmsL T n (vs.take k))
 row : wr.ownsRow (w.heap.size + 1 + 1) 9 1 v k (scells (fmsL T n (vs.take k)))
 box : Kb wr w.heap.size box
 low : Below w.heap.size w wr
theorem NVI.below {T : List Ty} {n : ByteArray} {vs : List ByteArray} {w : World} {box : Obj} {k : Nat} {D : DataW Unit} {v : Value} {wr V : World} (h : NVI T n vs w box k D v wr) (hb : Below wr.heap.size wr V) : NVI T n vs w box k D v V :=
 ⟨h.zero, h.set.below hb h.set.lt, own_below h.row hb, h.box.step hb, h.low.trans (hb.mono h.low.size)⟩
theorem nvE_fault {T : List Ty} {n : ByteArray} {vs : List ByteArray} {k : Nat} (hk : k < vs.length) (h : ∀ q, q < k → nrmE T n (partAt vs q) = 0) {e : Int} (he : nrmE T n (partAt vs k) = e) (h0 : e ≠ 0) : nvE T n vs = e ∧ nvL T n vs = [] := by
 have h1 : fmsE T n vs = e := by
  unfold fmsE
  rw [firstE_hit h (by rw [he]; exact h0) hk, he]
 have h2 : nvE T n vs = e := by unfold nvE; rw [h1, if_pos h0]
 exact ⟨h2, by unfold nvL; rw [if_neg (by rw [h2]; exact h0)]⟩
theorem nvE_end {T : List Ty} {n : ByteArray} {vs : List ByteArray} (h : ∀ q, q < vs.length → nrmE T n (partAt vs q) = 0) : fmsE T n vs = 0 := firstE_zero h
theorem nvE_twice {T : List Ty} {n : ByteArray} {vs : List ByteArray} (h : fmsE T n vs = 0) (hn : ¬ (fmsL T n vs).Nodup) : nvE T n vs = 7 ∧ nvL T n vs = [] := by
 have h2 : nvE T n vs = 7 := by unfold nvE; rw [if_neg (by simp [h]), if_neg hn]
 exact ⟨h2, by unfold nvL; rw [if_neg (by rw [h2]; decide)]⟩
theorem nvE_ok {T : List Ty} {n : ByteArray} {vs : List ByteArray} (h : fmsE T n vs = 0) (hn : (fmsL T n vs).Nodup) : nvE T n vs = 0 ∧ nvL T n vs = fmsL T n vs := by
 have h2 : nvE T n vs = 0 := by unfold nvE; rw [if_neg (by simp [h]), if_pos hn]
 exact ⟨h2, by unfold nvL; rw [if_pos h2]⟩
def NvP (T : List Ty) (n : ByteArray) (vs : List ByteArray) (w : World) (e : Ending) (w' : World) : Prop :=
 ∃ u, e = .returned (.tuple #[u, .int .i64 (nvE T n vs)]) ∧ w'.ownsRow w.heap.size 9 1 u (nvL T n vs).length (scells (nvL T n vs)) ∧ Below w.heap.size w w'
theorem NvP.no {T : List Ty} {n : ByteArray} {vs : List ByteArray} {w w' : World} {c : Int} (h : nvE T n vs = c ∧ nvL T n vs = []) (hb : Below w.heap.size w w') : NvP T n vs w (.returned (.tuple #[.slice none 0 0, .int .i64 c])) w' :=
 ⟨_, by rw [h.1], by rw [h.2]; exact World.ownsRow_nil _ _ _ _, hb⟩
theorem row_lower {w : World} {base B n size : Nat} {e : TypeId} {v : Value} {xs : List Value} (h : w.ownsRow B e size v n xs) (hB : base ≤ B) : w.ownsRow base e size v n xs := by
 refine ⟨h.1, ?_⟩
 rcases h.2 with k | ⟨g, cap, cur, e1, h2, h3⟩
 ·exact .inl k
 ·exact .inr ⟨g, cap, cur, e1, Nat.le_trans hB h2, h3⟩
set_option maxHeartbeats 8000000 in
theorem nvals_s (to : Option Addr) (tn tc : Nat) (co : Option Addr) (cn cc : Nat) (ts : List Ty) (cs : List Cl) (n : ByteArray) (ao : Option Addr) (m cap : Nat) (vs : List ByteArray) (w : World) (h : SchV w (.agg #[.slice to tn tc, .slice co cn cc]) ts cs) (hv : StrsAt w ao m cap vs) (hn : n.size ≤ 1000000000) (hz : SmallS vs) (hm : m ≤ 1100000) (ho : IntOk w) :
  Calls Tryz.prog 15 #[.agg #[.slice to tn tc, .slice co cn cc], .string n, .slice ao m cap] w fun e w' => NvP (soundT ts cs) n vs w e w' := by
 obtain ⟨h1, h2, h3, h4⟩ := hv
 subst h1
 unfold maxLen at h3
 have H4 := Lib.hid h4; clear h4
 have HZ := Lib.hid hz; clear hz
 have HS := Lib.hid h; clear h
 have HO := Lib.hid ho; clear ho
 obtain ⟨T, hT⟩ : ∃ T, soundT ts cs = T := ⟨_, rfl⟩
 have HN := Lib.hid (fun (V : World) (s : ByteArray) (hV : SchV V (.agg #[.slice to tn tc, .slice co cn cc]) ts cs) (hs : s.size ≤ 1100000) (hO : IntOk V) => normalF_s _ ts cs n s V hV hn hs hO)
 rw [hT] at HN ⊢
 clear hT
 have hbx := below_al w (.cells #[.slice to tn tc, .slice co cn cc] 25)
 have HI0 := Lib.hid (show NVI T n vs w (.cells #[.slice to tn tc, .slice co cn cc] 25) 0 (.map []) (.slice none 0 0) ((w.alloc (.cells #[.slice to tn tc, .slice co cn cc] 25)).alloc (.map #[] 0)) from
  ⟨(fun q hq => absurd hq (Nat.not_lt_zero _)), by simpa [fmsL] using setZ_made (w.alloc (.cells #[.slice to tn tc, .slice co cn cc] 25)), World.ownsRow_nil _ _ _ _, (kbl_new w _).step (below_al _ _), hbx.trans ((below_al _ _).mono hbx.size)⟩)
 clear hbx
 have hmm := @run_makeMap Tryz.prog
 go_enter Tryz.func15, Tryz.ntmps15
 go_wp2_with fail
 clear hmm
 go_loopw [9, 11, 12, 13, 17] (fun s9 _ _ _ s17 wr => ∃ (k : Nat) (D : DataW Unit), k ≤ vs.length ∧ s17 = .int .i64 k ∧ Hid (NVI T n vs w (.cells #[.slice to tn tc, .slice co cn cc] 25) k D s9 wr)) (fun _ _ _ _ s17 _ => vs.length - (intOf s17).toNat)
 case atStart => exact ⟨0, _, Nat.zero_le _, rfl, HI0⟩
 case round =>
  clear HI0
  obtain ⟨k, D, hk, rfl, HI⟩ := hrel
  by_cases hlt : k < vs.length
  ·obtain ⟨b, off, rfl, hs⟩ := H4.out (by omega)
   have hcell := (hs.below HI.out.low hs.1).2 k hlt
   clear hs
   obtain ⟨p, hpe⟩ : ∃ p, partAt vs k = p := ⟨_, rfl⟩
   have hps : p.size ≤ 1100000 := by rw [← hpe]; exact HZ.out _ (part_mem vs k hlt)
   rw [hpe] at hcell
   have HPe := Lib.hid hpe
   have HT := Lib.hid (show fmsL T n (vs.take (k + 1)) = fmsL T n (vs.take k) ++ [nrmV T n p] by rw [← hpe]; exact fms_take T n vs k hlt)
   clear hpe
   have d1 : (k : Int) < (vs.length : Int) := by omega
   obtain ⟨q0, q1⟩ : wr.cell? ⟨w.heap.size, 0, none⟩ = some (.slice to tn tc) ∧ wr.cell? ⟨w.heap.size, 1, none⟩ = some (.slice co cn cc) := ⟨HI.out.box.cell rfl, HI.out.box.cell rfl⟩
   have HNk := Lib.hid (HN.out wr p (HS.out.below HI.out.low) hps (HO.out.below HI.out.low))
   obtain ⟨c, hc⟩ : ∃ c, nrmE T n p = c := ⟨_, rfl⟩
   obtain ⟨f, hf⟩ : ∃ f, nrmV T n p = f := ⟨_, rfl⟩
   rw [hc, hf] at HNk
   rw [hf] at HT
   have HC := Lib.hid (And.intro hc hf)
   clear hc hf
   by_cases h0 : c = 0
   ·subst h0
    have hfz : f.size ≤ 256 := by rw [← HC.out.2]; exact nrm_sz HC.out.1
    go_wp2_with fail
    refine HNk.out.mono ?_
    rintro e w1 ⟨rfl, hb⟩
    have HI1 := Lib.hid (HI.out.below hb)
    obtain ⟨w2, hrun, hG, hgr⟩ := HI1.out.set.store f (by unfold maxLen; omega) (by unfold maxLen; omega)
    have hown2 := HI1.out.row.kept hgr (by
     cases hr : u9.ownBlock
     ·exact .inl rfl
     ·refine .inr fun e => ?_
      have := (HI1.out.row.lt _ hr).1
      rw [Option.some.inj (e)] at this
      omega)
    have HG := Lib.hid hG
    have HLow2 := Lib.hid (HI1.out.low.grown hgr HI1.out.low.size (fun j hj => by cases hj; exact Nat.le_succ _))
    have HBox2 := Lib.hid (show Kb w2 w.heap.size (.cells #[.slice to tn tc, .slice co cn cc] 25) from (hgr.block _ HI1.out.box.big (by simp)).trans HI1.out.box)
    have hbig : w.heap.size + 1 + 1 ≤ w2.heap.size := by have := HG.out.lt; omega
    clear hb hG hgr q0 q1
    go_wp2_with (at_builtin; go_must (refine push_str w2 hown2 (.tmp 33) (.tmp 35) f ?_ ?_ ?_ ?_ ?_ ?_ ?_; exact rfl; exact rfl; exact rfl; exact rfl; omega; exact hbig; intro v3 w3 hown3 hb3))
    go_roundw
    case rel =>
     refine ⟨k + 1, D.put (klit f) (.lit (.bool true)), by omega, by go_num, Lib.hid ⟨fun q hq => ?_, ?_, ?_, (hb3.block _ (by omega)).trans HBox2.out, HLow2.out.trans (hb3.mono (by omega))⟩⟩
     ·by_cases e : q = k
      ·rw [e, HPe.out]; exact HC.out.1
      ·exact HI.out.zero q (by omega)
     ·rw [HT.out]; exact HG.out.below hb3 (Nat.lt_succ_self _)
     ·rw [HT.out]; simpa [scells] using hown3
    case measure => simp [intOf]; omega
   ·have HE := Lib.hid (nvE_fault hlt HI.out.zero (by rw [HPe.out]; exact HC.out.1) h0)
    have d2 : (c != 0) = true := by simpa using h0
    clear h0
    go_wp2_with fail
    refine HNk.out.mono ?_
    rintro e w1 ⟨rfl, hb⟩
    have HB1 := Lib.hid (HI.out.below hb).low
    clear hb
    go_wp2_with fail
    go_ret2
    exact NvP.no HE.out HB1.out
  ·obtain rfl : k = vs.length := by omega
   have hF0 := nvE_end HI.out.zero
   have hset := HI.out.set
   have hrow := HI.out.row
   rw [List.take_length] at hset hrow
   have HR := Lib.hid hrow
   have hmap := hset.map
   have HZz := Lib.hid hset.siz
   obtain ⟨so, sc, rfl, _⟩ := strs_own hrow (fms_len T n vs)
   have HFz := Lib.hid hF0
   have HFl := Lib.hid (fms_len T n vs)
   have HLw := Lib.hid HI.out.low
   clear hset hrow hF0
   obtain ⟨z, hz⟩ : ∃ z, Maps.size D = z := ⟨_, rfl⟩
   have hzl : z ≤ vs.length := by rw [← hz, HZz.out, ← HFl.out]; exact sortU_len _
   by_cases hnd : (fmsL T n vs).Nodup
   ·have hze : z = vs.length := by rw [← hz, HZz.out, sortU_len_new hnd, HFl.out]
    have HE := Lib.hid (nvE_ok HFz.out hnd)
    have d2 : ¬ ((z : Int) < (vs.length : Int)) := by omega
    clear hnd hze
    go_wp2_with (at_len; refine wpList_len_own _ rfl _ 77 rfl 9 4 Tryz.underlying77 _ _ _ D rfl hmap ?_; rw [hz])
    go_ret2
    exact ⟨_, by rw [HE.out.1]; rfl, by rw [HE.out.2, HFl.out]; exact row_lower HR.out (by omega), HLw.out⟩
   ·have hze : z < vs.length := by rw [← hz, HZz.out, ← HFl.out]; exact sortU_less hnd
    have HE := Lib.hid (nvE_twice HFz.out hnd)
    have d2 : (z : Int) < (vs.length : Int) := by omega
    clear hnd
    go_wp2_with (at_len; refine wpList_len_own _ rfl _ 77 rfl 9 4 Tryz.underlying77 _ _ _ D rfl hmap ?_; rw [hz])
    go_ret2
    exact NvP.no HE.out HLw.out
end Go.Proofs.YtonfkhkalodldabGreatDoor
end

section
set_option maxRecDepth 100000
namespace Go.Proofs.YtonfkhkalodldabGreatDoor
open Go.RowKit Go.PlainAid
def enC (en : ByteArray) (l : List At) : Int := if en = ⟨#[]⟩ ∨ Nam.normB en = false then 5 else chkA l
theorem emp_eq {s : ByteArray} (h : s ≠ ⟨#[]⟩) : (s.toList == ([] : List UInt8)) = false := by
 rw [Lib.toList_data]
 rcases s with ⟨⟨l⟩⟩
 cases l with
 | nil => exact absurd rfl h
 | cons => rfl
set_option maxHeartbeats 4000000 in
theorem enCheck_s (en : ByteArray) (ao : Option Addr) (n cap : Nat) (l : List At) (w : World) (hn : en.size ≤ 1100000) (h : AttrsAt w ao n cap l) (hS : SmallA l) (hF : FewV l) :
  Calls Tryz.prog 18 #[.agg #[.string en, .slice ao n cap]] w fun e w' => e = .returned (.int .i64 (enC en l)) ∧ Below w.heap.size w w' := by
 have hb0 := below_al w (.cells #[.string en, .slice ao n cap] 28)
 have HK := Lib.hid (kbl_new w (.cells #[.string en, .slice ao n cap] 28))
 have HV := Lib.hid (Nam.valid_s en (w.alloc (.cells #[.string en, .slice ao n cap] 28)) hn)
 have HC := Lib.hid (fun (V : World) (hb : Below w.heap.size w V) => check_s ao n cap l V (h.below hb) hS hF)
 have HB0 := Lib.hid hb0
 have HE := Lib.hid (show enC en l = if en = ⟨#[]⟩ ∨ Nam.normB en = false then 5 else chkA l from rfl)
 clear hb0
 go_enter Tryz.func18, Tryz.ntmps18
 by_cases h0 : en = ⟨#[]⟩
 ·have HR := Lib.hid (HE.out.trans (if_pos (.inl h0)))
  subst h0
  go_wp2_with fail
  go_ret
  exact ⟨by rw [HR.out]; rfl, HB0.out⟩
 ·have e0 := emp_eq h0
  have e1 := emp_false h0
  obtain ⟨nb, hnb⟩ : ∃ b, Nam.normB en = b := ⟨_, rfl⟩
  rw [hnb] at HV HE
  have HE2 := Lib.hid (show enC en l = if nb = false then 5 else chkA l by rw [HE.out]; simp [h0])
  clear HE hnb h0
  go_wp2_with fail
  refine HV.out.mono ?_
  rintro e w1 ⟨rfl, hb⟩
  have HB1 := Lib.hid (HB0.out.trans (hb.mono (by simp)))
  have HK1 := Lib.hid (HK.out.step hb)
  clear hb
  cases nb
  ·go_wp2_with fail
   go_ret
   exact ⟨by rw [HE2.out]; rfl, HB1.out⟩
  ·obtain ⟨k0, k1⟩ : w1.cell? ⟨w.heap.size, 0, none⟩ = some (.string en) ∧ w1.cell? ⟨w.heap.size, 1, none⟩ = some (.slice ao n cap) := ⟨HK1.out.cell rfl, HK1.out.cell rfl⟩
   go_wp2_with fail
   refine (HC.out _ HB1.out).mono ?_
   rintro e w2 ⟨rfl, hb⟩
   go_wp2_with fail
   go_ret
   exact ⟨by rw [HE2.out]; rfl, HB1.out.trans (hb.mono HB1.out.size)⟩
theorem LightE.fewE {l : List At} (h : LightE l) : FewE l :=
 ⟨h.few, fun a ha => by have := (h.each a ha).len; omega, ⟨by have h1 := vals_len l (lowS classN); have h2 := sumV_le (l := l) fun a ha => (h.each a ha).len; have h3 := h.len; omega, vals_small h.small _⟩, by have h1 := names_len l; have h2 := h.len; omega⟩
def enE (T : List Ty) (cs : List Cl) (en : ByteArray) (l : List At) : Int := if Nam.cleanE en ≠ 0 ∨ Nam.cleanV en = ⟨#[]⟩ then 5 else if chkA l ≠ 0 then chkA l else if nmE T (nf l) ≠ 0 then nmE T (nf l) else vldE T cs (nmL T (nf l))
def enN (T : List Ty) (cs : List Cl) (en : ByteArray) (l : List At) : ByteArray := if enE T cs en l = 0 then Nam.cleanV en else ⟨#[]⟩
def enL (T : List Ty) (cs : List Cl) (en : ByteArray) (l : List At) : List At := if enE T cs en l = 0 then nmL T (nf l) else []
def EnV (w : World) (v : Value) (en : ByteArray) (l : List At) : Prop := ∃ ao n cap, v = .agg #[.string en, .slice ao n cap] ∧ AttrsAt w ao n cap l
theorem EnV.below {w w' : World} {v : Value} {en : ByteArray} {l : List At} (h : EnV w v en l) (hb : Below w.heap.size w w') : EnV w' v en l := by
 obtain ⟨ao, n, cap, e, k⟩ := h
 exact ⟨ao, n, cap, e, k.below hb⟩
theorem env_nil (w : World) : EnV w (.agg #[.string ⟨#[]⟩, .slice none 0 0]) ⟨#[]⟩ [] := ⟨none, 0, 0, rfl, rfl, Nat.le_refl _, by unfold maxLen; omega, fun h => absurd h (Nat.lt_irrefl _)⟩
def EnP (T : List Ty) (cs : List Cl) (en : ByteArray) (l : List At) (w : World) (e : Ending) (w' : World) : Prop :=
 ∃ v, e = .returned (.tuple #[v, .int .i64 (enE T cs en l)]) ∧ EnV w' v (enN T cs en l) (enL T cs en l) ∧ Below w.heap.size w w'
theorem EnP.no {T : List Ty} {cs : List Cl} {en : ByteArray} {l : List At} {w w' : World} {c : Int} (h : enE T cs en l = c) (h0 : c ≠ 0) (hb : Below w.heap.size w w') : EnP T cs en l w (.returned (.tuple #[.agg #[.string ⟨#[]⟩, .slice none 0 0], .int .i64 c])) w' := by
 subst h
 refine ⟨_, rfl, ?_, hb⟩
 unfold enN enL
 rw [if_neg h0, if_neg h0]
 exact env_nil _
theorem enE_name {T : List Ty} {cs : List Cl} {en : ByteArray} {l : List At} (h : Nam.cleanE en ≠ 0 ∨ Nam.cleanV en = ⟨#[]⟩) : enE T cs en l = 5 := if_pos h
theorem enE_chk {T : List Ty} {cs : List Cl} {en : ByteArray} {l : List At} {c : Int} (h : ¬ (Nam.cleanE en ≠ 0 ∨ Nam.cleanV en = ⟨#[]⟩)) (hc : chkA l = c) (h0 : c ≠ 0) : enE T cs en l = c := by
 subst hc
 unfold enE; rw [if_neg h, if_pos h0]
theorem enE_nm {T : List Ty} {cs : List Cl} {en : ByteArray} {l : List At} {c : Int} (h : ¬ (Nam.cleanE en ≠ 0 ∨ Nam.cleanV en = ⟨#[]⟩)) (hc : chkA l = 0) (hn : nmE T (nf l) = c) (h0 : c ≠ 0) : enE T cs en l = c := by
 subst hn
 unfold enE; rw [if_neg h, if_neg (by simp [hc]), if_pos h0]
theorem enE_vld {T : List Ty} {cs : List Cl} {en : ByteArray} {l : List At} {c : Int} (h : ¬ (Nam.cleanE en ≠ 0 ∨ Nam.cleanV en = ⟨#[]⟩)) (hc : chkA l = 0) (hn : nmE T (nf l) = 0) (hv : vldE T cs (nmL T (nf l)) = c) : enE T cs en l = c := by
 subst hv
 unfold enE; rw [if_neg h, if_neg (by simp [hc]), if_neg (by simp [hn])]
theorem EnP.yes {T : List Ty} {cs : List Cl} {en : ByteArray} {l : List At} {w w' : World} {cl : ByteArray} {L : List At} {ao : Option Addr} {n cap : Nat} (h : enE T cs en l = 0) (hc : Nam.cleanV en = cl) (hL : nmL T (nf l) = L) (ha : AttrsAt w' ao n cap L) (hb : Below w.heap.size w w') :
  EnP T cs en l w (.returned (.tuple #[.agg #[.string cl, .slice ao n cap], .int .i64 0])) w' := by
 subst hc hL
 refine ⟨_, by rw [h], ?_, hb⟩
 unfold enN enL
 rw [if_pos h, if_pos h]
 exact ⟨ao, n, cap, rfl, ha⟩
theorem chk_light {l : List At} (h : chkA l = 0) : LightE l := by
 have k := chk_ok h
 refine ⟨by have := k.len; omega, fun a ha => ?_⟩
 obtain ⟨h1, h2, h3⟩ := k.each a ha
 exact ⟨by have := name_sz h1; omega, by omega, fun v hv => by have := clean_sz (h3.clean v hv); omega⟩
theorem tats_at {T : List Tr} {j : Nat} (h : j < T.length) : atD (tats T) j = ((T.getD j default).1, (T.getD j default).2.2) := by
 rw [at_get _ _ (by rw [tats_len]; exact h)]
 unfold tats
 rw [List.getElem_map, List.getD_eq_getElem?_getD, List.getElem?_eq_getElem h]; rfl
structure NmI (T : List Ty) (L : List At) (w : World) (b9 base : Nat) (cl : ByteArray) (sch : Obj) (ao : Option Addr) (n cap i : Nat) (U : List Tr) (wr : World) : Prop where
 kS : Kb wr w.heap.size sch
 kR : Kb wr (w.heap.size + 2) (.cells #[.string ⟨#[]⟩, .slice none 0 0] 28)
 kN : Kb wr b9 (.cells #[.string cl, .slice ao n cap] 28)
 len : U.length = n
 row : wr.ownsRow base 41 2 (.slice ao n cap) n (tcells U)
 own : TOwn wr base (.slice ao n cap) U
 done : tats U = nmL T (L.take i) ++ L.drop i
 zero : ∀ q, q < i → nvE T (atD L q).1 (atD L q).2 = 0
 low : Below w.heap.size w wr
 apart : ∀ g, ao = some ⟨g, 0, none⟩ → g ≠ b9
 big : w.heap.size + 3 ≤ base ∧ w.heap.size + 3 ≤ b9 ∧ base ≤ b9
theorem NmI.below {T : List Ty} {L : List At} {w : World} {b9 base : Nat} {cl : ByteArray} {sch : Obj} {ao : Option Addr} {n cap i : Nat} {U : List Tr} {wr V : World} (h : NmI T L w b9 base cl sch ao n cap i U wr) (hb : Below wr.heap.size wr V) : NmI T L w b9 base cl sch ao n cap i U V :=
 ⟨h.kS.step hb, h.kR.step hb, h.kN.step hb, h.len, own_below h.row hb, h.own.below hb, h.done, h.zero, h.low.trans (hb.mono h.low.size), h.apart, h.big⟩
theorem nm_step {T : List Ty} {L : List At} {i : Nat} {U : List Tr} (hi : i < L.length) (hd : tats U = nmL T (L.take i) ++ L.drop i) (u : Value) :
  tats (U.set i ((atD L i).1, u, sortU (fmsL T (atD L i).1 (atD L i).2))) = nmL T (L.take (i + 1)) ++ L.drop (i + 1) := by
 have h1 : tats (U.set i ((atD L i).1, u, sortU (fmsL T (atD L i).1 (atD L i).2))) = (tats U).set i ((atD L i).1, sortU (fmsL T (atD L i).1 (atD L i).2)) := by
  unfold tats; rw [List.map_set]
 have h2 : (nmL T (L.take i)).length = i := by rw [nm_len, List.length_take]; omega
 rw [h1, hd, List.set_append_right _ _ (by omega), h2, Nat.sub_self, at_take L i hi]
 unfold nmL
 rw [List.map_append, List.append_assoc]
 congr 1
 rw [List.drop_eq_getElem_cons hi, List.set_cons_zero]; rfl
theorem tcells_setN {U : List Tr} {i : Nat} (hi : i < U.length) (p : ByteArray) (hp : (U.getD i default).1 = p) (u : Value) (vs : List ByteArray) : (tcells U).set (i * 2 + 1) u = tcells (U.set i (p, u, vs)) := by
 induction U generalizing i with
 | nil => exact absurd hi (Nat.not_lt_zero _)
 | cons t U ih =>
  cases i with
  | zero =>
   have : t.1 = p := hp
   subst this
   rfl
  | succ i =>
   rw [show (i + 1) * 2 + 1 = (i * 2 + 1) + 1 + 1 by omega, tcells_cons, List.set_cons_succ, List.set_cons_succ, List.set_cons_succ, tcells_cons, ih (by simpa using hi) (by simpa using hp)]
theorem etc_at {U : List Tr} {i : Nat} (hi : i < U.length) : (tcells U)[i * 2]? = some (.string (U.getD i default).1) ∧ (tcells U)[i * 2 + 1]? = some (U.getD i default).2.1 := by
 induction U generalizing i with
 | nil => exact absurd hi (Nat.not_lt_zero _)
 | cons t U ih =>
  cases i with
  | zero => exact ⟨rfl, rfl⟩
  | succ i =>
   have := ih (i := i) (by simpa using hi)
   rw [show (i + 1) * 2 = i * 2 + 1 + 1 by omega, tcells_cons]
   exact this
theorem NmI.same {T : List Ty} {L : List At} {w : World} {b9 base : Nat} {cl : ByteArray} {sch : Obj} {ao : Option Addr} {n cap i : Nat} {U : List Tr} {wr : World} (h : NmI T L w b9 base cl sch ao n cap i U wr) (hL : L.length = n) (hi : i < n) : (U.getD i default).1 = (atD L i).1 ∧ (U.getD i default).2.2 = (atD L i).2 := by
 have hiU : i < U.length := by rw [h.len]; exact hi
 have h1 := tats_at hiU
 rw [h.done] at h1
 have h2 : (nmL T (L.take i)).length = i := by rw [nm_len, List.length_take]; omega
 have h3 : atD (nmL T (L.take i) ++ L.drop i) i = atD L i := by
  unfold atD
  rw [List.getD_eq_getElem?_getD, List.getElem?_append_right (by omega), h2, Nat.sub_self, List.getElem?_drop, Nat.add_zero, ← List.getD_eq_getElem?_getD]
 rw [h3] at h1
 rw [h1]
 exact ⟨rfl, rfl⟩
theorem NmI.cell {T : List Ty} {L : List At} {w : World} {b9 base g : Nat} {cl : ByteArray} {sch : Obj} {n cap i : Nat} {U : List Tr} {wr : World} (h : NmI T L w b9 base cl sch (some ⟨g, 0, none⟩) n cap i U wr) (hL : L.length = n) (hi : i < n) :
  ∃ vo vc, wr.cell? ⟨g, i * 2, none⟩ = some (.string (atD L i).1) ∧ wr.cell? ⟨g, i * 2 + 1, none⟩ = some (.slice vo (atD L i).2.length vc) ∧ StrsAt wr vo (atD L i).2.length vc (atD L i).2 := by
 have hiU : i < U.length := by rw [h.len]; exact hi
 obtain ⟨s1, s2⟩ := h.same hL hi
 have hm : U.getD i default ∈ U := by
  rw [List.getD_eq_getElem?_getD, List.getElem?_eq_getElem hiU]; exact List.getElem_mem _
 obtain ⟨vo, vc, e, hst⟩ := strs_own (h.own _ hm).1 rfl
 obtain ⟨c1, c2⟩ := etc_at hiU
 have k1 := h.row.cells (g := g) rfl _ _ c1
 have k2 := h.row.cells (g := g) rfl _ _ c2
 rw [Go.WideShapes.add_plain, Nat.zero_add] at k1 k2
 rw [s1] at k1
 rw [e, s2] at k2
 rw [s2] at hst
 exact ⟨vo, vc, k1, k2, hst⟩
theorem TOwn.set {W : World} {base : Nat} {v : Value} {U : List Tr} (h : TOwn W base v U) {a : Addr} (ha : a.block < base) (u : Value) : TOwn (W.setCell a u) base v U := fun t ht => ⟨ownsRow_setCell_below (h t ht).1 ha u, (h t ht).2⟩
theorem own_atts {W : World} {base m sc : Nat} {so : Option Addr} {U : List Tr} (hr : W.ownsRow base 41 2 (.slice so m sc) m (tcells U)) (ho : TOwn W base (.slice so m sc) U) : AttrsAt W so m sc (tats U) := by
 obtain ⟨ao, n, cap, e, h⟩ := atts_own hr ho.ok
 simp only [Value.slice.injEq] at e
 obtain ⟨rfl, rfl, rfl⟩ := e
 exact h
theorem NmI.store {T : List Ty} {L : List At} {w : World} {b9 base g : Nat} {cl : ByteArray} {sch : Obj} {n cap i : Nat} {U : List Tr} {wr : World} (h : NmI T L w b9 base cl sch (some ⟨g, 0, none⟩) n cap i U wr) (hL : L.length = n) (hi : i < n) (u : Value)
  (hu : wr.ownsRow base 9 1 u (sortU (fmsL T (atD L i).1 (atD L i).2)).length (scells (sortU (fmsL T (atD L i).1 (atD L i).2)))) (hne : u.ownBlock = none ∨ u.ownBlock ≠ some g) (hz : nvE T (atD L i).1 (atD L i).2 = 0) :
  NmI T L w b9 base cl sch (some ⟨g, 0, none⟩) n cap (i + 1) (U.set i ((atD L i).1, u, sortU (fmsL T (atD L i).1 (atD L i).2))) (wr.setCell ⟨g, i * 2 + 1, none⟩ u) := by
 obtain ⟨s1, s2⟩ := h.row.stored (i * 2 + 1) u
 have hgb : base ≤ g := (h.row.lt g rfl).1
 have hiU : i < U.length := by rw [h.len]; exact hi
 have hp := (h.same hL hi).1
 have hk : ∀ {b : Nat} {o : Obj}, Kb wr b o → b ≠ g → Kb (wr.setCell ⟨g, i * 2 + 1, none⟩ u) b o := fun hb hn => hb.set _ _ hn
 have hba := h.big
 refine ⟨hk h.kS (by omega), hk h.kR (by omega), hk h.kN (fun e => h.apart g rfl e.symm), by rw [List.length_set]; exact h.len, ?_, ?_, nm_step (by omega) h.done u, fun q hq => ?_, h.low.setCell (p := ⟨g, i * 2 + 1, none⟩) (by show w.heap.size ≤ g; omega) u, h.apart, h.big⟩
 ·rw [← tcells_setN hiU _ hp u]; exact s1
 ·intro t ht
  rcases List.mem_or_eq_of_mem_set ht with ht | rfl
  ·refine ⟨ownsRow_setCell_other (h.own t ht).1 ?_ u, (h.own t ht).2⟩
   rcases (h.own t ht).2 with k | k
   ·rw [k]; intro e; cases e
   ·exact k
  ·refine ⟨ownsRow_setCell_other hu ?_ u, hne⟩
   rcases hne with k | k
   ·rw [k]; intro e; cases e
   ·exact k
 ·by_cases e : q = i
  ·rw [e]; exact hz
  ·exact h.zero q (by omega)
theorem edit_light {l : List At} {vs : List ByteArray} (h : LightE l) (hv : ∀ v ∈ vs, v.size ≤ 256) (hl : vs.length ≤ 1050000) : Edit l vs :=
 ⟨h.small, by have := sumV_le (l := l) fun a ha => (h.each a ha).len; have := h.len; omega, by have := h.len; omega, fun v hv' => by have := hv v hv'; omega, hl⟩
def MdP (r : List At × Int) (w : World) (e : Ending) (w' : World) : Prop := ∃ v, e = .returned (.tuple #[v, .int .i64 r.2]) ∧ AttsR w' v r.1 ∧ Below w.heap.size w w'
theorem MdP.no {r : List At × Int} {w w' : World} {c : Int} (h : r = ([], c)) (hb : Below w.heap.size w w') : MdP r w (.returned (.tuple #[.slice none 0 0, .int .i64 c])) w' :=
 ⟨_, by rw [h], by rw [h]; exact atts_nil w', hb⟩
set_option maxHeartbeats 16000000 in
theorem modified_s (to : Option Addr) (tn tc : Nat) (co : Option Addr) (cn cc : Nat) (ts : List Ty) (cs : List Cl) (ao : Option Addr) (n cap : Nat) (l : List At) (op : Int) (nm : ByteArray) (vo : Option Addr) (vn vc : Nat) (vs : List ByteArray) (w : World) (h : SchV w (.agg #[.slice to tn tc, .slice co cn cc]) ts cs) (ha : AttrsAt w ao n cap l) (hv : StrsAt w vo vn vc vs) (hl : LightE l) (hz : SmallS vs) (hm : vn ≤ 1050000) (hn : nm.size ≤ 1100000) (ho : IntOk w) :
  Calls Tryz.prog 26 #[.agg #[.slice to tn tc, .slice co cn cc], .slice ao n cap, .agg #[.int .i64 op, .string nm, .slice vo vn vc]] w fun e w' => MdP (modR (soundT ts cs) l ⟨op, nm, vs⟩) w e w' := by
 have HS := Lib.hid h; clear h
 have HA := Lib.hid ha; clear ha
 have HV := Lib.hid hv; clear hv
 have HO := Lib.hid ho; clear ho
 have HVl := Lib.hid HV.out.1
 have b0 := below_al w (.cells #[.slice to tn tc, .slice co cn cc] 25)
 have b1 := below_al (w.alloc (.cells #[.slice to tn tc, .slice co cn cc] 25)) (.cells #[.int .i64 op, .string nm, .slice vo vn vc] 57)
 have hb := b0.trans (b1.mono b0.size)
 have hk0 := (kbl_new w (.cells #[.slice to tn tc, .slice co cn cc] 25)).step b1
 have hk1 : Kb ((w.alloc (.cells #[.slice to tn tc, .slice co cn cc] 25)).alloc (.cells #[.int .i64 op, .string nm, .slice vo vn vc] 57)) (w.heap.size + 1) (.cells #[.int .i64 op, .string nm, .slice vo vn vc] 57) := by
  have := kbl_new (w.alloc (.cells #[.slice to tn tc, .slice co cn cc] 25)) (.cells #[.int .i64 op, .string nm, .slice vo vn vc] 57)
  simpa using this
 have HB := Lib.hid hb
 have HK := Lib.hid (And.intro hk0 hk1)
 clear b0 b1 hb hk0 hk1
 have HTy := Lib.hid (fun (V : World) (hb : Below w.heap.size w V) => typeF_s _ ts cs nm V (HS.out.below hb) (by omega))
 have HNv := Lib.hid (fun (V : World) (hb : Below w.heap.size w V) => nvals_s to tn tc co cn cc ts cs nm vo vn vc vs V (HS.out.below hb) (HV.out.below hb) (by omega) hz (by omega) (HO.out.below hb))
 unfold NvP at HNv
 obtain ⟨T, hT⟩ : ∃ T, soundT ts cs = T := ⟨_, rfl⟩
 rw [hT] at HTy HNv ⊢
 clear hT
 obtain ⟨⟨tn', ty', ts'⟩, htt⟩ : ∃ t, (tyOf T nm).getD zeroTy = t := ⟨_, rfl⟩
 obtain ⟨tb, htb⟩ : ∃ b, (tyOf T nm).isSome = b := ⟨_, rfl⟩
 rw [htt, htb] at HTy
 unfold tyV at HTy
 have HTb := Lib.hid htb
 clear htt htb
 go_enter Tryz.func26, Tryz.ntmps26
 by_cases hop : op = 1 ∨ op = 2 ∨ op = 3
 ·have HOp := Lib.hid hop
  have d1 : decide (op < 1) = false := decide_eq_false (by omega)
  have d2 : decide (3 < op) = false := decide_eq_false (by omega)
  obtain ⟨c, hc⟩ : ∃ c, nvE T nm vs = c := ⟨_, rfl⟩
  rw [hc] at HNv
  have HC := Lib.hid hc
  clear hc hop
  go_wp2_with fail
  refine (HTy.out _ HB.out).mono ?_
  rintro e w1 ⟨rfl, hb⟩
  have hbl := below_al w1 (.cells #[.string tn', .int .i64 ty', .bool ts'] 104)
  have HB1 := Lib.hid (HB.out.trans ((hb.trans (hbl.mono hb.size)).mono HB.out.size))
  have HK1 := Lib.hid (And.intro ((HK.out.1.step hb).step hbl) ((HK.out.2.step hb).step hbl))
  clear hb hbl
  obtain ⟨c0, c1⟩ : (w1.alloc (.cells #[.string tn', .int .i64 ty', .bool ts'] 104)).cell? ⟨w.heap.size, 0, none⟩ = some (.slice to tn tc) ∧ (w1.alloc (.cells #[.string tn', .int .i64 ty', .bool ts'] 104)).cell? ⟨w.heap.size, 1, none⟩ = some (.slice co cn cc) := ⟨HK1.out.1.cell rfl, HK1.out.1.cell rfl⟩
  obtain ⟨m0, m1, m2⟩ : (w1.alloc (.cells #[.string tn', .int .i64 ty', .bool ts'] 104)).cell? ⟨w.heap.size + 1, 0, none⟩ = some (.int .i64 op) ∧ (w1.alloc (.cells #[.string tn', .int .i64 ty', .bool ts'] 104)).cell? ⟨w.heap.size + 1, 1, none⟩ = some (.string nm) ∧ (w1.alloc (.cells #[.string tn', .int .i64 ty', .bool ts'] 104)).cell? ⟨w.heap.size + 1, 2, none⟩ = some (.slice vo vn vc) := ⟨HK1.out.2.cell rfl, HK1.out.2.cell rfl, HK1.out.2.cell rfl⟩
  cases tb
  ·go_wp2_with fail
   go_ret2
   exact MdP.no (mod_type HOp.out HTb.out) HB1.out
  ·go_wp2_with fail
   refine (HNv.out _ HB1.out).mono ?_
   rintro e w2 ⟨u, rfl, hrow, hb⟩
   have HB2 := Lib.hid (HB1.out.trans (hb.mono HB1.out.size))
   have HK2 := Lib.hid (HK1.out.2.step hb)
   clear c0 c1 m0 m1 m2
   obtain ⟨m0, m1, m2⟩ : w2.cell? ⟨w.heap.size + 1, 0, none⟩ = some (.int .i64 op) ∧ w2.cell? ⟨w.heap.size + 1, 1, none⟩ = some (.string nm) ∧ w2.cell? ⟨w.heap.size + 1, 2, none⟩ = some (.slice vo vn vc) := ⟨HK2.out.cell rfl, HK2.out.cell rfl, HK2.out.cell rfl⟩
   by_cases h0 : c = 0
   ·subst h0
    have hnl : nvL T nm vs = fmsL T nm vs := if_pos HC.out
    rw [hnl] at hrow
    obtain ⟨uo, uc, rfl, hst⟩ := strs_own hrow rfl
    have hfl := fms_len T nm vs
    rw [hfl, HVl.out] at hst ⊢
    have HEd := Lib.hid (edit_light (vs := fmsL T nm vs) hl (fun v hv => clean_sz (fms_clean (nv_fms HC.out).1 v hv)) (by rw [hfl, HVl.out]; exact hm))
    have HAd := Lib.hid (add_s ao uo n cap vn uc l nm (fmsL T nm vs) w2 (HA.out.below HB2.out) hst HEd.out hn)
    have HRm := Lib.hid (rem_s ao uo n cap vn uc l nm (fmsL T nm vs) w2 (HA.out.below HB2.out) hst HEd.out hn)
    have HRp := Lib.hid (rep_s ao uo n cap vn uc l nm (fmsL T nm vs) w2 (HA.out.below HB2.out) hst HEd.out hn)
    clear hb hrow hst hfl hnl
    rcases HOp.out with h1 | h1 | h1
    ·subst h1
     have HE := Lib.hid (mod_add (T := T) (l := l) (m := ⟨1, nm, vs⟩) rfl HTb.out HC.out)
     go_wp2_with fail
     refine HAd.out.mono ?_
     rintro e w3 ⟨v, rfl, ⟨ro, rn, rc, rfl, hr⟩, hb⟩
     go_wp2_with fail
     go_ret2
     exact ⟨_, by rw [HE.out]; rfl, ⟨ro, rn, rc, rfl, by rw [HE.out]; exact hr⟩, HB2.out.trans (hb.mono HB2.out.size)⟩
    ·subst h1
     have HE := Lib.hid (mod_rem (T := T) (l := l) (m := ⟨2, nm, vs⟩) rfl HTb.out HC.out)
     go_wp2_with fail
     refine HRm.out.mono ?_
     rintro e w3 ⟨v, rfl, ⟨ro, rn, rc, rfl, hr⟩, hb⟩
     go_wp2_with fail
     go_ret2
     exact ⟨_, by rw [HE.out]; rfl, ⟨ro, rn, rc, rfl, by rw [HE.out]; exact hr⟩, HB2.out.trans (hb.mono HB2.out.size)⟩
    ·subst h1
     have HE := Lib.hid (mod_rep (T := T) (l := l) (m := ⟨3, nm, vs⟩) rfl HTb.out HC.out)
     go_wp2_with fail
     refine HRp.out.mono ?_
     rintro e w3 ⟨v, rfl, ⟨ro, rn, rc, rfl, hr⟩, hb⟩
     go_wp2_with fail
     go_ret2
     exact ⟨_, by rw [HE.out]; rfl, ⟨ro, rn, rc, rfl, by rw [HE.out]; exact hr⟩, HB2.out.trans (hb.mono HB2.out.size)⟩
   ·have d3 : (c != 0) = true := by simpa using h0
    have HE := Lib.hid (mod_val (T := T) (l := l) (m := ⟨op, nm, vs⟩) HOp.out HTb.out HC.out h0)
    obtain ⟨uo, uc, rfl⟩ := row_slice hrow
    clear hb hrow
    go_wp2_with fail
    go_ret2
    exact MdP.no HE.out HB2.out
 ·have HE := Lib.hid (mod_op (T := T) (l := l) (m := ⟨op, nm, vs⟩) hop)
  by_cases h1 : op < 1
  ·have d1 : decide (op < 1) = true := decide_eq_true h1
   clear hop
   go_wp2_with fail
   go_ret2
   exact MdP.no HE.out HB.out
  ·have d1 : decide (op < 1) = false := decide_eq_false h1
   have d2 : decide (3 < op) = true := decide_eq_true (by omega)
   clear hop
   go_wp2_with fail
   go_ret2
   exact MdP.no HE.out HB.out
theorem nm_light {T : List Ty} {l : List At} (h : chkA l = 0) (hE : nmE T (nf l) = 0) : LightE (nmL T (nf l)) := chk_light (nm_chk h hE)
theorem enz_new (w : World) (a b : Obj) : Kb (((w.alloc a).alloc b).alloc (.cells #[.string ⟨#[]⟩, .slice none 0 0] 28)) (w.heap.size + 2) (.cells #[.string ⟨#[]⟩, .slice none 0 0] 28) := by
 have := kbl_new ((w.alloc a).alloc b) (.cells #[.string ⟨#[]⟩, .slice none 0 0] 28)
 simpa using this
set_option maxHeartbeats 16000000 in
theorem enNormal_s (to : Option Addr) (tn tc : Nat) (co : Option Addr) (cn cc : Nat) (ts : List Ty) (cs : List Cl) (en : ByteArray) (ao : Option Addr) (n cap : Nat) (l : List At) (w : World) (h : SchV w (.agg #[.slice to tn tc, .slice co cn cc]) ts cs) (hen : en.size ≤ 1100000) (ha : AttrsAt w ao n cap l) (hS : SmallA l) (hF : FewV l) (ho : IntOk w) :
  Calls Tryz.prog 5 #[.agg #[.slice to tn tc, .slice co cn cc], .agg #[.string en, .slice ao n cap]] w fun e w' => EnP (soundT ts cs) (soundC ts cs) en l w e w' := by
 have HS := Lib.hid h; clear h
 have HA := Lib.hid ha; clear ha
 have HO := Lib.hid ho; clear ho
 have hs0 := below_al w (.cells #[.slice to tn tc, .slice co cn cc] 25)
 have HVd := Lib.hid (fun (V : World) (hb : Below w.heap.size w V) (c : ByteArray) (bo : Option Addr) (bn bc : Nat) (k : List At) (hk : AttrsAt V bo bn bc k) (hl : LightE k) => validF_s _ ts cs c bo bn bc k V (HS.out.below hb) hk hl.fewE (HO.out.below hb))
 have HNv := Lib.hid (fun (V : World) (hb : Below w.heap.size w V) (nm : ByteArray) (vo : Option Addr) (vn vc : Nat) (vs : List ByteArray) (hv : StrsAt V vo vn vc vs) (hn : nm.size ≤ 1000000000) (hz : SmallS vs) (hm : vn ≤ 1100000) => nvals_s to tn tc co cn cc ts cs nm vo vn vc vs V (HS.out.below hb) hv hn hz hm (HO.out.below hb))
 obtain ⟨T, hT⟩ : ∃ T, soundT ts cs = T := ⟨_, rfl⟩
 obtain ⟨C, hC⟩ : ∃ C, soundC ts cs = C := ⟨_, rfl⟩
 rw [hT] at HNv HVd ⊢
 rw [hC] at HVd ⊢
 clear hT hC
 have hb0 : Below w.heap.size w (((w.alloc (.cells #[.slice to tn tc, .slice co cn cc] 25)).alloc (.cells #[.string en, .slice ao n cap] 28)).alloc (.cells #[.string ⟨#[]⟩, .slice none 0 0] 28)) := (hs0.alloc (by simp) _).alloc (by simp; omega) _
 have hk0 : Kb (((w.alloc (.cells #[.slice to tn tc, .slice co cn cc] 25)).alloc (.cells #[.string en, .slice ao n cap] 28)).alloc (.cells #[.string ⟨#[]⟩, .slice none 0 0] 28)) w.heap.size (.cells #[.slice to tn tc, .slice co cn cc] 25) := ((kbl_new w _).step (below_al _ _)).step (below_al _ _)
 have hk1 : Kb (((w.alloc (.cells #[.slice to tn tc, .slice co cn cc] 25)).alloc (.cells #[.string en, .slice ao n cap] 28)).alloc (.cells #[.string ⟨#[]⟩, .slice none 0 0] 28)) (w.heap.size + 1) (.cells #[.string en, .slice ao n cap] 28) := by
  have := (kbl_new (w.alloc (.cells #[.slice to tn tc, .slice co cn cc] 25)) (.cells #[.string en, .slice ao n cap] 28)).step (below_al _ (.cells #[.string ⟨#[]⟩, .slice none 0 0] 28))
  simpa using this
 have hk2 := enz_new w (.cells #[.slice to tn tc, .slice co cn cc] 25) (.cells #[.string en, .slice ao n cap] 28)
 have HCl := Lib.hid (Nam.clean0_s en (((w.alloc (.cells #[.slice to tn tc, .slice co cn cc] 25)).alloc (.cells #[.string en, .slice ao n cap] 28)).alloc (.cells #[.string ⟨#[]⟩, .slice none 0 0] 28)) hen)
 have HB0 := Lib.hid hb0
 have HK0 := Lib.hid (And.intro hk0 (And.intro hk1 hk2))
 clear hs0 hb0 hk0 hk1 hk2
 go_enter Tryz.func5, Tryz.ntmps5
 go_wp2_with fail
 refine HCl.out.mono ?_
 rintro e w1 ⟨rfl, hb⟩
 have HB1 := Lib.hid (HB0.out.trans (hb.mono HB0.out.size))
 have HK1 := Lib.hid (And.intro (HK0.out.1.step hb) (And.intro (HK0.out.2.1.step hb) (HK0.out.2.2.step hb)))
 clear hb HCl HB0 HK0
 obtain ⟨cl, hcl⟩ : ∃ x, Nam.cleanV en = x := ⟨_, rfl⟩
 obtain ⟨ce, hce⟩ : ∃ x, Nam.cleanE en = x := ⟨_, rfl⟩
 rw [hcl, hce]
 have HCe := Lib.hid (And.intro hcl hce)
 clear hcl hce
 obtain ⟨e0, e1⟩ : w1.cell? ⟨w.heap.size + 1, 0, none⟩ = some (.string en) ∧ w1.cell? ⟨w.heap.size + 1, 1, none⟩ = some (.slice ao n cap) := ⟨HK1.out.2.1.cell rfl, HK1.out.2.1.cell rfl⟩
 by_cases hbad : ce ≠ 0 ∨ cl = ⟨#[]⟩
 ·have HE := Lib.hid (enE_name (T := T) (cs := C) (l := l) (show Nam.cleanE en ≠ 0 ∨ Nam.cleanV en = ⟨#[]⟩ by rw [HCe.out.1, HCe.out.2]; exact hbad))
  obtain ⟨r0, r1⟩ : w1.cell? ⟨w.heap.size + 2, 0, none⟩ = some (.string ⟨#[]⟩) ∧ w1.cell? ⟨w.heap.size + 2, 1, none⟩ = some (.slice none 0 0) := ⟨HK1.out.2.2.cell rfl, HK1.out.2.2.cell rfl⟩
  have f0 : w1.frozen? ⟨w.heap.size + 2, 0, none⟩ = false := heap_frozen HK1.out.2.2
  have f1 : w1.frozen? ⟨w.heap.size + 2, 1, none⟩ = false := heap_frozen HK1.out.2.2
  have HBe := Lib.hid (below_set1 (below_set1 HB1.out (w.heap.size + 2) 0 (by omega) (.string ⟨#[]⟩)) (w.heap.size + 2) 1 (by omega) (.slice none 0 0))
  by_cases hc0 : ce = 0
  ·have hcz : cl = ⟨#[]⟩ := hbad.resolve_left (fun k => k hc0)
   subst hc0 hcz
   clear hbad
   go_wp2_with fail
   refine bodyPost_ret (v := .tuple #[.agg #[.string ⟨#[]⟩, .slice none 0 0], .int .i64 5]) (by simp only [results, Tryz.results5]; go_simp) rfl ?_
   exact EnP.no HE.out (by decide) HBe.out
  ·have d1 : (ce != 0) = true := by simpa using hc0
   clear hbad
   go_wp2_with fail
   refine bodyPost_ret (v := .tuple #[.agg #[.string ⟨#[]⟩, .slice none 0 0], .int .i64 5]) (by simp only [results, Tryz.results5]; go_simp) rfl ?_
   exact EnP.no HE.out (by decide) HBe.out
 ·have hc0 : ce = 0 := Classical.not_not.1 fun k => hbad (.inl k)
  have hcz : cl ≠ ⟨#[]⟩ := fun k => hbad (.inr k)
  subst hc0
  have d1 := emp_eq hcz
  have d2 := emp_false hcz
  have HNb := Lib.hid (show ¬ (Nam.cleanE en ≠ 0 ∨ Nam.cleanV en = ⟨#[]⟩) by rw [HCe.out.1, HCe.out.2]; exact hbad)
  have HCk := Lib.hid (check_s ao n cap l w1 (HA.out.below HB1.out) hS hF)
  clear hbad hcz
  obtain ⟨c, hc⟩ : ∃ c, chkA l = c := ⟨_, rfl⟩
  rw [hc] at HCk
  have HCc := Lib.hid hc
  clear hc
  go_wp2_with fail
  refine HCk.out.mono ?_
  rintro e w2 ⟨rfl, hb⟩
  have HB2 := Lib.hid (HB1.out.trans (hb.mono HB1.out.size))
  have HK2 := Lib.hid (And.intro (HK1.out.1.step hb) (And.intro (HK1.out.2.1.step hb) (HK1.out.2.2.step hb)))
  clear hb HCk e0 e1
  obtain ⟨e0, e1⟩ : w2.cell? ⟨w.heap.size + 1, 0, none⟩ = some (.string en) ∧ w2.cell? ⟨w.heap.size + 1, 1, none⟩ = some (.slice ao n cap) := ⟨HK2.out.2.1.cell rfl, HK2.out.2.1.cell rfl⟩
  by_cases h0 : c = 0
  ·subst h0
   have HLt := Lib.hid (chk_light HCc.out)
   have hbig2 : w.heap.size + 3 ≤ w2.heap.size := HK2.out.2.2.big
   have HSo := Lib.hid (sorted_s ao n cap l w2 (HA.out.below HB2.out) HLt.out.few)
   go_wp2_with fail
   refine HSo.out.mono ?_
   rintro e w3 ⟨v, U, rfl, hU, hO, _, hrow, hb⟩
   obtain ⟨so, sc, rfl⟩ := row_slice hrow
   have HB3 := Lib.hid (HB2.out.trans (hb.mono HB2.out.size))
   have hbl := below_al w3 (.cells #[.string cl, .slice so U.length sc] 28)
   have HUl := Lib.hid (show (nf l).length = U.length by rw [← hU, tats_len])
   have HI := Lib.hid (show NmI T (nf l) w w3.heap.size w2.heap.size cl (.cells #[.slice to tn tc, .slice co cn cc] 25) so U.length sc 0 U (w3.alloc (.cells #[.string cl, .slice so U.length sc] 28)) from
    ⟨(HK2.out.1.step hb).step hbl, (HK2.out.2.2.step hb).step hbl, kbl_new _ _, rfl, own_below hrow hbl, hO.below hbl, (by simpa [nmL] using hU), (fun q hq => absurd hq (Nat.not_lt_zero _)), HB3.out.trans (hbl.mono HB3.out.size), (fun g e => by subst e; have := (hrow.lt g rfl).2; omega), hbig2, by have := hb.size; omega, hb.size⟩)
   have HLn := Lib.hid (show ∀ q, q < (nf l).length → LightE (nf l) from fun _ _ => chk_light (nf_chk HCc.out))
   have HLz := Lib.hid (chk_light (nf_chk HCc.out))
   obtain ⟨m, hm⟩ : ∃ m, U.length = m := ⟨_, rfl⟩
   rw [hm] at HI HUl hrow ⊢
   obtain ⟨b9, hb9⟩ : ∃ x, w3.heap.size = x := ⟨_, rfl⟩
   obtain ⟨L, hL⟩ : ∃ x, nf l = x := ⟨_, rfl⟩
   have HLe := Lib.hid hL
   rw [hL] at HI HUl HLz
   clear hb hbl hU hO hrow HLn hm hL e0 e1 HSo
   have hm32 : m ≤ 32 := by have h1 := HUl.out; have h2 := (chk_ok (nf_chk HCc.out)).len; rw [HLe.out] at h2; omega
   obtain ⟨k0, k1⟩ : (w3.alloc (.cells #[.string cl, .slice so m sc] 28)).cell? ⟨w3.heap.size, 0, none⟩ = some (.string cl) ∧ (w3.alloc (.cells #[.string cl, .slice so m sc] 28)).cell? ⟨w3.heap.size, 1, none⟩ = some (.slice so m sc) := ⟨HI.out.kN.cell rfl, HI.out.kN.cell rfl⟩
   go_wp2_with fail
   rw [hb9] at HI
   go_loopw [10, 11, 12, 13, 43] (fun _ _ _ _ s43 wr => ∃ (i : Nat) (U : List Tr), i ≤ m ∧ s43 = .int .i64 i ∧ Hid (NmI T L w b9 w2.heap.size cl (.cells #[.slice to tn tc, .slice co cn cc] 25) so m sc i U wr)) (fun _ _ _ _ s43 _ => m - (intOf s43).toNat)
   case atStart => exact ⟨0, _, Nat.zero_le _, rfl, HI⟩
   case round =>
    clear HI k0 k1 hb9
    obtain ⟨i, V, hi, rfl, HI⟩ := hrel
    have hbgb := HI.out.big
    have hszr := HI.out.kN.big
    by_cases hlt : i < m
    ·have d1 : (i : Int) < (m : Int) := by omega
     obtain ⟨g, rfl⟩ : ∃ g, so = some ⟨g, 0, none⟩ := by
      rcases HI.out.row.2 with ⟨e, _⟩ | ⟨g, cp, cur, e, _⟩
      ·simp only [Value.slice.injEq] at e
       omega
      ·simp only [Value.slice.injEq] at e
       exact ⟨g, e.1⟩
     obtain ⟨vo, vc, c1, c2, hst⟩ := HI.out.cell HUl.out hlt
     have hgl := HI.out.row.lt g rfl
     have hAt := HLz.out.each (atD L i) (by rw [at_get L i (by rw [HUl.out]; exact hlt)]; exact List.getElem_mem _)
     have HFt := Lib.hid (fun (c : Int) (hc : nvE T (atD L i).1 (atD L i).2 = c) (h0 : c ≠ 0) => show nmE T L = c from by
      unfold nmE; rw [firstE_hit HI.out.zero (by show nvE T (atD L i).1 (atD L i).2 ≠ 0; rw [hc]; exact h0) (by rw [HUl.out]; exact hlt)]; exact hc)
     have HSt := Lib.hid (fun (W : World) (u : Value) (hW : NmI T L w b9 w2.heap.size cl (.cells #[.slice to tn tc, .slice co cn cc] 25) (some ⟨g, 0, none⟩) m sc i V W) => hW.store HUl.out hlt u)
     obtain ⟨nm, hnm⟩ : ∃ x, (atD L i).1 = x := ⟨_, rfl⟩
     obtain ⟨vs, hvs⟩ : ∃ x, (atD L i).2 = x := ⟨_, rfl⟩
     have hA1 := hAt.nm
     have hA2 := hAt.len
     have hA3 := hAt.each
     rw [hnm, hvs] at HFt HSt
     rw [hnm] at c1 hA1
     rw [hvs] at c2 hst hA2 hA3
     have HA3 := Lib.hid hA3
     obtain ⟨vn, hvn⟩ : ∃ x, vs.length = x := ⟨_, rfl⟩
     rw [hvn] at c2 hst hA2
     have HVn := Lib.hid hvn
     have HSv := Lib.hid hst
     clear hnm hvs hAt hA3 hvn hst
     have hbl := below_al wr (.cells #[.string nm, .slice vo vn vc] 41)
     have HI4 := Lib.hid (HI.out.below hbl)
     have HNk := Lib.hid (HNv.out (wr.alloc (.cells #[.string nm, .slice vo vn vc] 41)) HI4.out.low nm vo vn vc vs (HSv.out.below hbl) (by omega) (fun v hv => by have := HA3.out v hv; omega) (by omega))
     unfold NvP at HNk
     obtain ⟨q0, q1⟩ : (wr.alloc (.cells #[.string nm, .slice vo vn vc] 41)).cell? ⟨w.heap.size, 0, none⟩ = some (.slice to tn tc) ∧ (wr.alloc (.cells #[.string nm, .slice vo vn vc] 41)).cell? ⟨w.heap.size, 1, none⟩ = some (.slice co cn cc) := ⟨HI4.out.kS.cell rfl, HI4.out.kS.cell rfl⟩
     obtain ⟨c, hc⟩ : ∃ c, nvE T nm vs = c := ⟨_, rfl⟩
     rw [hc] at HNk
     have HC := Lib.hid hc
     clear hbl hc
     go_wp2_with fail
     refine HNk.out.mono ?_
     rintro e w5 ⟨u, rfl, hrow, hb⟩
     have HI5 := Lib.hid (HI4.out.below hb)
     by_cases h0 : c = 0
     ·subst h0
      have hnl : nvL T nm vs = fmsL T nm vs := if_pos HC.out
      rw [hnl, fms_len, HVn.out] at hrow
      have HSrt := Lib.hid (sortRow_s (wr.alloc (.cells #[.string nm, .slice vo vn vc] 41)).heap.size vn u (fmsL T nm vs) w5 hrow (by rw [fms_len, HVn.out]) (by omega) (nv_fms HC.out).2)
      have HRl := Lib.hid (fun k e => (hrow.lt k e).1)
      obtain ⟨uo, uc, rfl⟩ := row_slice hrow
      have hb5 := hb.size
      have HB45 := Lib.hid hb
      clear hb hnl hrow q0 q1 c1 c2
      go_wp2_with fail
      refine HSrt.out.mono ?_
      rintro e w6 ⟨rfl, hrow, hgr⟩
      have hb6 : Below (wr.alloc (.cells #[.string nm, .slice vo vn vc] 41)).heap.size w5 w6 := (Below.refl _ _).grown hgr hb5 HRl.out
      have HI6 := Lib.hid (show NmI T L w b9 w2.heap.size cl (.cells #[.slice to tn tc, .slice co cn cc] 25) (some ⟨g, 0, none⟩) m sc i V w6 from HI4.out.below (HB45.out.trans hb6))
      have HN7 := Lib.hid (HSt.out w6 (.slice uo vn uc) HI6.out (by
       have h1 : (sortU (fmsL T nm vs)).length = vn := by rw [sortU_len_new (nv_fms HC.out).2, fms_len, HVn.out]
       rw [h1]; exact row_lower hrow (by simp; omega)) (by
       cases hk : (Value.slice uo vn uc).ownBlock with
       | none => exact .inl rfl
       | some k => exact .inr fun e => by have h1 := HRl.out k hk; have := Option.some.inj e; simp at h1; omega) HC.out)
      obtain ⟨k0, k1⟩ : w6.cell? ⟨b9, 0, none⟩ = some (.string cl) ∧ w6.cell? ⟨b9, 1, none⟩ = some (.slice (some ⟨g, 0, none⟩) m sc) := ⟨HI6.out.kN.cell rfl, HI6.out.kN.cell rfl⟩
      obtain ⟨_, _, c1, c2, _⟩ := HI6.out.cell HUl.out hlt
      have f1 : w6.frozen? ⟨g, i * 2 + 1, none⟩ = false := HI6.out.row.frozenAt _
      clear hrow hgr hb6
      go_wp2_with fail
      go_roundw
      case rel => exact ⟨i + 1, _, by omega, by go_num, HN7⟩
      case measure => simp [intOf]; omega
     ·have d3 : (c != 0) = true := by simpa using h0
      have HE := Lib.hid (enE_nm (T := T) (cs := C) HNb.out HCc.out (by rw [HLe.out]; exact HFt.out c HC.out h0) h0)
      obtain ⟨r0, r1⟩ : w5.cell? ⟨w.heap.size + 2, 0, none⟩ = some (.string ⟨#[]⟩) ∧ w5.cell? ⟨w.heap.size + 2, 1, none⟩ = some (.slice none 0 0) := ⟨HI5.out.kR.cell rfl, HI5.out.kR.cell rfl⟩
      have f0 : w5.frozen? ⟨w.heap.size + 2, 0, none⟩ = false := heap_frozen HI5.out.kR
      have f1 : w5.frozen? ⟨w.heap.size + 2, 1, none⟩ = false := heap_frozen HI5.out.kR
      have HBe := Lib.hid (below_set1 (below_set1 HI5.out.low (w.heap.size + 2) 0 (by omega) (.string ⟨#[]⟩)) (w.heap.size + 2) 1 (by omega) (.slice none 0 0))
      obtain ⟨uo, uc, rfl⟩ := row_slice hrow
      clear hb hrow
      go_wp2_with fail
      refine bodyPost_ret (v := .tuple #[.agg #[.string ⟨#[]⟩, .slice none 0 0], .int .i64 c]) (by simp only [results, Tryz.results5]; go_simp) rfl ?_
      exact EnP.no HE.out h0 HBe.out
    ·obtain rfl : i = m := by omega
     have d1 : ¬ (i : Int) < (i : Int) := by omega
     have HE0 := Lib.hid (show nmE T (nf l) = 0 by rw [HLe.out]; exact firstE_zero (by rw [HUl.out]; exact HI.out.zero))
     have HDn := Lib.hid (show tats V = nmL T L by have := HI.out.done; rwa [← HUl.out, List.take_length, List.drop_length, List.append_nil] at this)
     have HVk := Lib.hid (HVd.out wr HI.out.low cl so i sc (nmL T L) (by rw [← HDn.out]; exact own_atts HI.out.row HI.out.own) (by rw [← HLe.out]; exact nm_light HCc.out HE0.out))
     obtain ⟨q0, q1⟩ : wr.cell? ⟨w.heap.size, 0, none⟩ = some (.slice to tn tc) ∧ wr.cell? ⟨w.heap.size, 1, none⟩ = some (.slice co cn cc) := ⟨HI.out.kS.cell rfl, HI.out.kS.cell rfl⟩
     obtain ⟨k0, k1⟩ : wr.cell? ⟨b9, 0, none⟩ = some (.string cl) ∧ wr.cell? ⟨b9, 1, none⟩ = some (.slice so i sc) := ⟨HI.out.kN.cell rfl, HI.out.kN.cell rfl⟩
     obtain ⟨c, hc⟩ : ∃ c, vldE T C (nmL T L) = c := ⟨_, rfl⟩
     rw [hc] at HVk
     have HE := Lib.hid (enE_vld (c := c) (T := T) (cs := C) HNb.out HCc.out HE0.out (by rw [HLe.out]; exact hc))
     clear hc
     go_wp2_with fail
     refine HVk.out.mono ?_
     rintro e w7 ⟨rfl, hb⟩
     have HI7 := Lib.hid (HI.out.below hb)
     clear hb q0 q1 k0 k1
     obtain ⟨k0, k1⟩ : w7.cell? ⟨b9, 0, none⟩ = some (.string cl) ∧ w7.cell? ⟨b9, 1, none⟩ = some (.slice so i sc) := ⟨HI7.out.kN.cell rfl, HI7.out.kN.cell rfl⟩
     obtain ⟨r0, r1⟩ : w7.cell? ⟨w.heap.size + 2, 0, none⟩ = some (.string ⟨#[]⟩) ∧ w7.cell? ⟨w.heap.size + 2, 1, none⟩ = some (.slice none 0 0) := ⟨HI7.out.kR.cell rfl, HI7.out.kR.cell rfl⟩
     have f0 : w7.frozen? ⟨w.heap.size + 2, 0, none⟩ = false := heap_frozen HI7.out.kR
     have f1 : w7.frozen? ⟨w.heap.size + 2, 1, none⟩ = false := heap_frozen HI7.out.kR
     by_cases h0 : c = 0
     ·subst h0
      have HBe := Lib.hid (below_set1 (below_set1 HI7.out.low (w.heap.size + 2) 0 (by omega) (.string cl)) (w.heap.size + 2) 1 (by omega) (.slice so i sc))
      have HAe := Lib.hid (show AttrsAt ((w7.setCell ⟨w.heap.size + 2, 0, none⟩ (.string cl)).setCell ⟨w.heap.size + 2, 1, none⟩ (.slice so i sc)) so i sc (nmL T L) by
       rw [← HDn.out]
       exact own_atts (ownsRow_setCell_below (ownsRow_setCell_below HI7.out.row (a := ⟨w.heap.size + 2, 0, none⟩) (by show w.heap.size + 2 < w2.heap.size; omega) _) (a := ⟨w.heap.size + 2, 1, none⟩) (by show w.heap.size + 2 < w2.heap.size; omega) _)
        ((HI7.out.own.set (a := ⟨w.heap.size + 2, 0, none⟩) (by show w.heap.size + 2 < w2.heap.size; omega) _).set (a := ⟨w.heap.size + 2, 1, none⟩) (by show w.heap.size + 2 < w2.heap.size; omega) _))
      have HCl2 := Lib.hid (And.intro HCe.out.1 (show nmL T (nf l) = nmL T L by rw [HLe.out]))
      go_wp2_with fail
      refine bodyPost_ret (v := .tuple #[.agg #[.string cl, .slice so i sc], .int .i64 0]) (by simp only [results, Tryz.results5]; go_simp) rfl ?_
      exact EnP.yes HE.out HCl2.out.1 HCl2.out.2 HAe.out HBe.out
     ·have d3 : (c != 0) = true := by simpa using h0
      have HBe := Lib.hid (below_set1 (below_set1 HI7.out.low (w.heap.size + 2) 0 (by omega) (.string ⟨#[]⟩)) (w.heap.size + 2) 1 (by omega) (.slice none 0 0))
      go_wp2_with fail
      refine bodyPost_ret (v := .tuple #[.agg #[.string ⟨#[]⟩, .slice none 0 0], .int .i64 c]) (by simp only [results, Tryz.results5]; go_simp) rfl ?_
      exact EnP.no HE.out h0 HBe.out
  ·have d3 : (c != 0) = true := by simpa using h0
   have HE := Lib.hid (enE_chk (T := T) (cs := C) HNb.out HCc.out h0)
   obtain ⟨r0, r1⟩ : w2.cell? ⟨w.heap.size + 2, 0, none⟩ = some (.string ⟨#[]⟩) ∧ w2.cell? ⟨w.heap.size + 2, 1, none⟩ = some (.slice none 0 0) := ⟨HK2.out.2.2.cell rfl, HK2.out.2.2.cell rfl⟩
   have f0 : w2.frozen? ⟨w.heap.size + 2, 0, none⟩ = false := heap_frozen HK2.out.2.2
   have f1 : w2.frozen? ⟨w.heap.size + 2, 1, none⟩ = false := heap_frozen HK2.out.2.2
   have HBe := Lib.hid (below_set1 (below_set1 HB2.out (w.heap.size + 2) 0 (by omega) (.string ⟨#[]⟩)) (w.heap.size + 2) 1 (by omega) (.slice none 0 0))
   go_wp2_with fail
   refine bodyPost_ret (v := .tuple #[.agg #[.string ⟨#[]⟩, .slice none 0 0], .int .i64 c]) (by simp only [results, Tryz.results5]; go_simp) rfl ?_
   exact EnP.no HE.out h0 HBe.out
end Go.Proofs.YtonfkhkalodldabGreatDoor
end
