/-
  Texts of the schema layer and of those beneath it, joined: EntTu, EntLn, EntB, EntNs, EntRn, EntTx, EntSm. Conditions stand at each contract.
-/
import Derived.Test.YtonfkhkalodldabGreatDoorT17
set_option linter.unusedVariables false
set_option linter.unusedSimpArgs false
set_option linter.unnecessarySimpa false

section
set_option maxRecDepth 100000
namespace Go.Proofs.YtonfkhkalodldabGreatDoor
open Go.RowKit Go.PlainAid
theorem nodup_sub_len : ∀ {l K : List ByteArray}, l.Nodup → (∀ x ∈ l, x ∈ K) → l.length ≤ K.length
 | [], K, _, _ => Nat.zero_le _
 | x :: l, K, hd, hs => by
  have h1 := List.nodup_cons.1 hd
  obtain ⟨s, t, rfl⟩ := List.append_of_mem (hs x (by simp))
  have h2 := nodup_sub_len (l := l) (K := s ++ t) h1.2 fun y hy => by
   have h3 := hs y (by simp [hy])
   rcases List.mem_append.1 h3 with h3 | h3
   ·exact List.mem_append.2 (.inl h3)
   ·rcases List.mem_cons.1 h3 with h3 | h3
    ·rw [h3] at hy; exact absurd hy h1.1
    ·exact List.mem_append.2 (.inr h3)
  simp only [List.length_append, List.length_cons] at h2 ⊢
  omega
theorem nodup_take_no {l : List ByteArray} (h : l.Nodup) {j : Nat} (hj : j < l.length) : memB (l.take j) (partAt l j) = false := by
 cases e : memB (l.take j) (partAt l j)
 ·rfl
 ·exfalso
  obtain ⟨i, hi, k⟩ := List.mem_iff_getElem.1 (memB_iff.1 e)
  rw [List.length_take] at hi
  rw [List.getElem_take, part_get l j hj] at k
  exact List.pairwise_iff_getElem.1 h i j (by omega) hj (by omega) k
theorem names_low {l : List At} {n : ByteArray} (h : n ∈ names l) : lowS n = n := by
 obtain ⟨v, a, _, e, _⟩ := names_mem.1 h
 rw [← e, lowS_low]
theorem vals_withn {l : List At} {n : ByteArray} {us : List ByteArray} (hn : lowS n = n) (m : ByteArray) : vals (withL l n us) m = if m = n then sortU us else vals l m := by
 by_cases e : m = n
 ·subst e
  rw [if_pos rfl]
  have := vals_with (l := l) (name := m) (us := us)
  rwa [hn] at this
 ·rw [if_neg e]
  exact vals_other (by rw [hn]; exact e)
theorem nf_short {l : List At} {K : List ByteArray} (hN : NF l) (h : ∀ m, vals l m ≠ [] → m ∈ K) : l.length ≤ K.length := by
 have e : l.map (·.1) = names l := (congrArg (List.map (·.1)) (nf_id hN)).symm.trans (nf_names l)
 have := nodup_sub_len (l := l.map (·.1)) (K := K) (asc_nodup hN.asc) fun m hm => h m (names_vals.1 (by rw [← e]; exact hm))
 rwa [List.length_map] at this
theorem nrv_ok {T : List Ty} {n : ByteArray} {us : List ByteArray} (h : ∀ v ∈ us, NrV T n v) (hd : us.Nodup) : nvE T n us = 0 := by
 have h2 : fmsE T n us = 0 := firstE_zero fun k hk => (h _ (part_mem _ k hk)).1
 exact (nvE_ok h2 (by rw [fms_id h]; exact hd)).1
theorem NrV.clean {T : List Ty} {n v : ByteArray} (h : NrV T n v) : cleanB v = true := by have := nrm_clean h.1; rwa [h.2] at this
theorem NrV.typed {T : List Ty} {n v : ByteArray} (h : NrV T n v) : (tyOf T n).isSome = true := by
 have := h.1
 unfold nrmE at this
 cases e : tyOf T n with
 | none => rw [e] at this; cases this
 | some t => rfl
theorem step_rem {T : List Ty} {l : List At} {n : ByteArray} {us : List ByteArray} (hn : lowS n = n) (hb : nameB n = true) (ht : (tyOf T n).isSome = true) (hr : ∀ v ∈ us, NrV T n v) (hd : us.Nodup) (hne : vals l n ≠ []) (hin : ∀ v ∈ us, v ∈ vals l n) :
  modR T l ⟨2, n, us⟩ = (withL l n (leftV (vals l n) us), 0) := by
 rw [mod_rem (m := ⟨2, n, us⟩) rfl ht (nrv_ok hr hd)]
 show remR l n (fmsL T n us) = _
 rw [fms_id hr]
 unfold remR
 rw [hn, if_neg (by rw [hb]; decide), if_neg (fun e => hne (List.length_eq_zero_iff.1 e)), if_neg (fun k => k (firstE_zero fun j hj => by
  unfold errR
  have hm := memB_iff.2 (hin _ (part_mem us j hj))
  simp [hm, nodup_take_no hd hj]))]
theorem step_add {T : List Ty} {l : List At} {n : ByteArray} {us : List ByteArray} (hn : lowS n = n) (hb : nameB n = true) (ht : (tyOf T n).isSome = true) (hr : ∀ v ∈ us, NrV T n v) (hd : us.Nodup) (hne : us ≠ []) (hnew : ∀ v ∈ us, v ∉ vals l n)
  (h16 : (vals l n ++ us).length ≤ 16) (h32 : (withL l n (vals l n ++ us)).length ≤ 32) : modR T l ⟨1, n, us⟩ = (withL l n (vals l n ++ us), 0) := by
 rw [mod_add (m := ⟨1, n, us⟩) rfl ht (nrv_ok hr hd)]
 show addR l n (fmsL T n us) = _
 rw [fms_id hr]
 unfold addR
 rw [hn, if_neg (by rw [hb]; decide), if_neg (fun e => hne (List.length_eq_zero_iff.1 e)), if_neg (fun k => k (fit_chk ⟨fun v hv => (hr v hv).clean, hd, hnew⟩))]
 unfold limR
 rw [if_neg (by omega)]
theorem step_rep {T : List Ty} {l : List At} {n : ByteArray} {us : List ByteArray} (hn : lowS n = n) (hb : nameB n = true) (ht : (tyOf T n).isSome = true) (hr : ∀ v ∈ us, NrV T n v) (hd : us.Nodup)
  (h16 : us.length ≤ 16) (h32 : (withL l n us).length ≤ 32) : modR T l ⟨3, n, us⟩ = (withL l n us, 0) := by
 rw [mod_rep (m := ⟨3, n, us⟩) rfl ht (nrv_ok hr hd)]
 show repR l n (fmsL T n us) = _
 rw [fms_id hr]
 unfold repR
 rw [if_neg (by rw [hb]; decide), if_neg (fun k => k (fit_chk ⟨fun v hv => (hr v hv).clean, hd, fun _ _ h => by cases h⟩))]
 unfold limR
 rw [if_neg (by omega)]
theorem minus_mem {a b : List ByteArray} {v : ByteArray} : v ∈ minusL a b ↔ v ∈ a ∧ v ∉ b := by
 unfold minusL
 rw [List.mem_filter]
 constructor
 ·rintro ⟨h, k⟩
  exact ⟨h, fun e => by rw [memB_iff.2 e] at k; cases k⟩
 ·rintro ⟨h, k⟩
  refine ⟨h, ?_⟩
  cases e : memB b v
  ·rfl
  ·exact absurd (memB_iff.1 e) k
theorem minus_nil {a b : List ByteArray} (h : ¬ 0 < (minusL a b).length) : ∀ v ∈ a, v ∈ b := fun v hv => Classical.byContradiction fun e => h (List.length_pos_of_mem (minus_mem.2 ⟨hv, e⟩))
theorem minus_nd {a b : List ByteArray} (h : a.Nodup) : (minusL a b).Nodup := h.sublist List.filter_sublist
theorem left_mem {old vs : List ByteArray} {v : ByteArray} (h0 : 0 < vs.length) : v ∈ leftV old vs ↔ v ∈ old ∧ v ∉ vs := by
 unfold leftV
 rw [List.mem_filter, decide_eq_true h0, Bool.true_and]
 constructor
 ·rintro ⟨h, k⟩
  exact ⟨h, fun e => by rw [memB_iff.2 e] at k; cases k⟩
 ·rintro ⟨h, k⟩
  refine ⟨h, ?_⟩
  cases e : memB vs v
  ·rfl
  ·exact absurd (memB_iff.1 e) k
structure Tn (a b : List At) (P : List ByteArray) (l : List At) : Prop where
 nof : NF l
 val : ∀ n, (n ∈ P → vals l n = vals b n) ∧ (n ∉ P → vals l n = vals a n)
structure NmK (T : List Ty) (a b : List At) (n : ByteArray) : Prop where
 low : lowS n = n
 nm : nameB n = true
 ty : (tyOf T n).isSome = true
 nrA : ∀ v ∈ vals a n, NrV T n v
 nrB : ∀ v ∈ vals b n, NrV T n v
 some : vals a n ≠ [] ∨ vals b n ≠ []
 cntB : (vals b n).length ≤ 16
theorem nm_facts {T : List Ty} {cs : List Cl} {e : ByteArray} {a : List At} (h : NmE T cs e a) {n : ByteArray} (hn : n ∈ names a) : lowS n = n ∧ nameB n = true ∧ (tyOf T n).isSome = true := by
 obtain ⟨v, hv⟩ := names_mem.1 hn
 have hl := hv
 obtain ⟨x, hx, ex, hvx⟩ := hv
 have hxn : x.1 = n := (h.nof.low x hx).symm.trans ex
 refine ⟨names_low hn, ?_, (h.nr n v (vals_mem.2 hl)).typed⟩
 rw [← hxn]
 exact ((chk_ok h.chk).each x hx).1
theorem vals_cnt {T : List Ty} {cs : List Cl} {e : ByteArray} {a : List At} (h : NmE T cs e a) (n : ByteArray) : (vals a n).length ≤ 16 := by
 by_cases k : n ∈ names a
 ·obtain ⟨v, x, hx, ex, _⟩ := names_mem.1 k
  have hxn : x.1 = n := (h.nof.low x hx).symm.trans ex
  rw [← hxn, nf_get h.nof hx]
  exact ((chk_ok h.chk).each x hx).2.1
 ·have : vals a n = [] := Classical.byContradiction fun e => k (names_vals.2 e)
  rw [this]; exact Nat.zero_le _
theorem nm_k {T : List Ty} {cs : List Cl} {ea eb : ByteArray} {a b : List At} (ha : NmE T cs ea a) (hb : NmE T cs eb b) {n : ByteArray} (hn : n ∈ names a ++ names b) : NmK T a b n := by
 rcases List.mem_append.1 hn with h | h
 ·obtain ⟨h1, h2, h3⟩ := nm_facts ha h
  exact ⟨h1, h2, h3, ha.nr n, hb.nr n, .inl (names_vals.1 h), vals_cnt hb n⟩
 ·obtain ⟨h1, h2, h3⟩ := nm_facts hb h
  exact ⟨h1, h2, h3, ha.nr n, hb.nr n, .inr (names_vals.1 h), vals_cnt hb n⟩
theorem Tn.short {a b : List At} {P : List ByteArray} {l : List At} (h : Tn a b P l) {K : List ByteArray} (hK : ∀ m, m ∈ names a ++ names b → m ∈ K) {n : ByteArray} (hn : n ∈ K) (hlow : lowS n = n) (us : List ByteArray) : (withL l n us).length ≤ K.length :=
 nf_short (nf_NF _) fun m hm => by
  rw [vals_withn hlow] at hm
  by_cases e : m = n
  ·rw [e]; exact hn
  ·rw [if_neg e] at hm
   by_cases q : m ∈ P
   ·rw [(h.val m).1 q] at hm; exact hK m (List.mem_append.2 (.inr (names_vals.2 hm)))
   ·rw [(h.val m).2 q] at hm; exact hK m (List.mem_append.2 (.inl (names_vals.2 hm)))
theorem Tn.put {a b : List At} {P : List ByteArray} {l : List At} (h : Tn a b P l) {n : ByteArray} (hlow : lowS n = n) {us : List ByteArray} (hu : sortU us = vals b n) : Tn a b (n :: P) (withL l n us) :=
 ⟨nf_NF _, fun m => by
  rw [vals_withn hlow]
  by_cases e : m = n
  ·rw [if_pos e, e]
   exact ⟨fun _ => hu, fun q => absurd (by simp) q⟩
  ·rw [if_neg e]
   exact ⟨fun q => (h.val m).1 ((List.mem_cons.1 q).elim (fun k => absurd k e) id), fun q => (h.val m).2 fun k => q (List.mem_cons.2 (.inr k))⟩⟩
theorem tn_step {T : List Ty} {a b l : List At} {K P : List ByteArray} {n : ByteArray} (hK : ∀ m, m ∈ names a ++ names b → m ∈ K) (h32 : K.length ≤ 32) (hnK : n ∈ K) (hk : NmK T a b n) (hP : n ∉ P) (h : Tn a b P l) :
  ∃ l', (∀ ms, modsR T l (dif1 n (vals a n) (vals b n) ++ ms) = modsR T l' ms) ∧ Tn a b (n :: P) l' := by
 have hv : vals l n = vals a n := (h.val n).2 hP
 have hA := vals_asc a n
 have hB := vals_asc b n
 have hlen := fun us => Nat.le_trans (h.short hK hnK hk.low us) h32
 unfold dif1
 by_cases c1 : (vals b n).length = 0
 ·rw [if_pos c1]
  have hb0 := List.length_eq_zero_iff.1 c1
  have hne : vals l n ≠ [] := by rw [hv]; exact hk.some.elim id fun k => absurd hb0 k
  have hs := step_rem (T := T) (l := l) (us := []) hk.low hk.nm hk.ty (fun v hv => by cases hv) List.nodup_nil hne (fun v hv => by cases hv)
  exact ⟨_, fun ms => mods_ok hs, h.put hk.low (by rw [hb0, show leftV (vals l n) [] = [] from List.filter_eq_nil_iff.2 (by simp)]; rfl)⟩
 ·rw [if_neg c1]
  by_cases c2 : 0 < (vals a n).length ∧ (minusL (vals a n) (vals b n)).length = (vals a n).length
  ·rw [if_pos c2, minus_all c2.2]
   have hs := step_rep (T := T) (l := l) hk.low hk.nm hk.ty hk.nrB (asc_nodup hB) hk.cntB (hlen _)
   exact ⟨_, fun ms => mods_ok hs, h.put hk.low (sortU_id hB)⟩
  ·rw [if_neg c2]
   by_cases c3 : 0 < (minusL (vals a n) (vals b n)).length
   ·rw [if_pos c3]
    have hne : vals l n ≠ [] := by
     rw [hv]; intro e
     rw [e] at c3; exact absurd c3 (by unfold minusL; simp)
    have hs := step_rem (T := T) (l := l) (us := minusL (vals a n) (vals b n)) hk.low hk.nm hk.ty (fun v hv => hk.nrA v (minus_mem.1 hv).1) (minus_nd (asc_nodup hA)) hne (fun v hv' => by rw [hv]; exact (minus_mem.1 hv').1)
    rw [hv] at hs
    obtain ⟨C, hC⟩ : ∃ x, leftV (vals a n) (minusL (vals a n) (vals b n)) = x := ⟨_, rfl⟩
    have hCm : ∀ v, v ∈ C ↔ v ∈ vals a n ∧ v ∈ vals b n := fun v => by
     rw [← hC, left_mem c3, minus_mem]
     exact ⟨fun ⟨p, q⟩ => ⟨p, Classical.byContradiction fun e => q ⟨p, e⟩⟩, fun ⟨p, q⟩ => ⟨p, fun e => e.2 q⟩⟩
    rw [hC] at hs
    by_cases c4 : (minusL (vals b n) (vals a n)).length = 0
    ·rw [if_pos c4]
     have hsub := minus_nil (a := vals b n) (b := vals a n) (by omega)
     exact ⟨_, fun ms => mods_ok hs, h.put hk.low (asc_ext (sortU_asc _) hB fun v => by rw [sortU_mem, hCm]; exact ⟨fun k => k.2, fun k => ⟨hsub v k, k⟩⟩)⟩
    ·rw [if_neg c4]
     have hv1 : vals (withL l n C) n = sortU C := by rw [vals_withn hk.low, if_pos rfl]
     have hm2 : ∀ v, v ∈ sortU C ++ minusL (vals b n) (vals a n) ↔ v ∈ vals b n := fun v => by
      rw [List.mem_append, sortU_mem, hCm, minus_mem]
      by_cases q : v ∈ vals a n
      ·exact ⟨fun k => k.elim (fun k => k.2) fun k => k.1, fun k => .inl ⟨q, k⟩⟩
      ·exact ⟨fun k => k.elim (fun k => k.2) fun k => k.1, fun k => .inr ⟨k, q⟩⟩
     have hnd : (sortU C ++ minusL (vals b n) (vals a n)).Nodup := by
      rw [List.nodup_append]
      refine ⟨asc_nodup (sortU_asc _), minus_nd (asc_nodup hB), fun x hx y hy e => ?_⟩
      subst e
      exact (minus_mem.1 hy).2 ((hCm x).1 (sortU_mem.1 hx)).1
     have h16 : (sortU C ++ minusL (vals b n) (vals a n)).length ≤ 16 := Nat.le_trans (nodup_sub_len hnd fun v hv => (hm2 v).1 hv) hk.cntB
     have hl2 : (withL (withL l n C) n (sortU C ++ minusL (vals b n) (vals a n))).length ≤ 32 := Nat.le_trans (nf_short (K := K) (nf_NF _) fun m hm => by
      rw [vals_withn hk.low] at hm
      by_cases e : m = n
      ·rw [e]; exact hnK
      ·rw [if_neg e, vals_withn hk.low, if_neg e] at hm
       by_cases q : m ∈ P
       ·rw [(h.val m).1 q] at hm; exact hK m (List.mem_append.2 (.inr (names_vals.2 hm)))
       ·rw [(h.val m).2 q] at hm; exact hK m (List.mem_append.2 (.inl (names_vals.2 hm)))) h32
     have hs2 := step_add (T := T) (l := withL l n C) (us := minusL (vals b n) (vals a n)) hk.low hk.nm hk.ty (fun v hv => hk.nrB v (minus_mem.1 hv).1) (minus_nd (asc_nodup hB)) (fun e => c4 (by rw [e]; rfl))
      (fun v hv' => by rw [hv1, sortU_mem, hCm]; exact fun k => (minus_mem.1 hv').2 k.1) (by rw [hv1]; exact h16) (by rw [hv1]; exact hl2)
     rw [hv1] at hs2
     refine ⟨_, fun ms => (mods_ok hs).trans (mods_ok hs2), nf_NF _, fun m => ?_⟩
     rw [vals_withn hk.low]
     by_cases e : m = n
     ·rw [if_pos e, e]
      exact ⟨fun _ => asc_ext (sortU_asc _) hB fun v => by rw [sortU_mem]; exact hm2 v, fun q => absurd (by simp) q⟩
     ·rw [if_neg e, vals_withn hk.low, if_neg e]
      exact ⟨fun q => (h.val m).1 ((List.mem_cons.1 q).elim (fun k => absurd k e) id), fun q => (h.val m).2 fun k => q (List.mem_cons.2 (.inr k))⟩
   ·rw [if_neg c3]
    have hsub := minus_nil (a := vals a n) (b := vals b n) c3
    by_cases c5 : 0 < (minusL (vals b n) (vals a n)).length
    ·rw [if_pos c5]
     have hm2 : ∀ v, v ∈ vals a n ++ minusL (vals b n) (vals a n) ↔ v ∈ vals b n := fun v => by
      rw [List.mem_append, minus_mem]
      by_cases q : v ∈ vals a n
      ·exact ⟨fun _ => hsub v q, fun _ => .inl q⟩
      ·exact ⟨fun k => k.elim (fun k => absurd k q) fun k => k.1, fun k => .inr ⟨k, q⟩⟩
     have hnd : (vals a n ++ minusL (vals b n) (vals a n)).Nodup := by
      rw [List.nodup_append]
      refine ⟨asc_nodup hA, minus_nd (asc_nodup hB), fun x hx y hy e => ?_⟩
      subst e
      exact (minus_mem.1 hy).2 hx
     have h16 := Nat.le_trans (nodup_sub_len hnd fun v hv => (hm2 v).1 hv) hk.cntB
     have hs := step_add (T := T) (l := l) (us := minusL (vals b n) (vals a n)) hk.low hk.nm hk.ty (fun v hv => hk.nrB v (minus_mem.1 hv).1) (minus_nd (asc_nodup hB)) (fun e => by rw [e] at c5; cases c5)
      (fun v hv' => by rw [hv]; exact (minus_mem.1 hv').2) (by rw [hv]; exact h16) (hlen _)
     rw [hv] at hs
     exact ⟨_, fun ms => mods_ok hs, h.put hk.low (asc_ext (sortU_asc _) hB fun v => by rw [sortU_mem]; exact hm2 v)⟩
    ·rw [if_neg c5]
     have hsub2 := minus_nil (a := vals b n) (b := vals a n) c5
     have e : vals a n = vals b n := asc_ext hA hB fun v => ⟨hsub v, hsub2 v⟩
     refine ⟨l, fun ms => rfl, h.nof, fun m => ?_⟩
     by_cases k : m = n
     ·rw [k, hv]
      exact ⟨fun _ => e, fun q => absurd (by simp) q⟩
     ·exact ⟨fun q => (h.val m).1 ((List.mem_cons.1 q).elim (fun z => absurd z k) id), fun q => (h.val m).2 fun z => q (List.mem_cons.2 (.inr z))⟩
theorem tn_all {T : List Ty} {a b : List At} {K : List ByteArray} (hK : ∀ m, m ∈ names a ++ names b → m ∈ K) (h32 : K.length ≤ 32) : ∀ (Q P : List ByteArray) (l : List At), (∀ n ∈ Q, n ∈ K ∧ NmK T a b n) → Q.Nodup → (∀ n ∈ Q, n ∉ P) → Tn a b P l →
  ∃ l' P', modsR T l (Q.flatMap fun n => dif1 n (vals a n) (vals b n)) = (l', 0) ∧ Tn a b P' l' ∧ ∀ n, n ∈ P' ↔ n ∈ Q ∨ n ∈ P
 | [], P, l, _, _, _, h => ⟨l, P, rfl, h, fun n => by simp⟩
 | n :: Q, P, l, hQ, hd, hP, h => by
  obtain ⟨l1, h1, h2⟩ := tn_step hK h32 (hQ n (by simp)).1 (hQ n (by simp)).2 (hP n (by simp)) h
  have hd' := List.nodup_cons.1 hd
  obtain ⟨l', P', k1, k2, k3⟩ := tn_all hK h32 Q (n :: P) l1 (fun m hm => hQ m (by simp [hm])) hd'.2 (fun m hm => by
   intro e
   rcases List.mem_cons.1 e with e | e
   ·exact hd'.1 (e ▸ hm)
   ·exact hP m (by simp [hm]) e) h2
  refine ⟨l', P', by rw [List.flatMap_cons, h1]; exact k1, k2, fun m => ?_⟩
  rw [k3, List.mem_cons, List.mem_cons]
  constructor
  ·rintro (k | k | k)
   ·exact .inl (.inr k)
   ·exact .inl (.inl k)
   ·exact .inr k
  ·rintro ((k | k) | k)
   ·exact .inr (.inl k)
   ·exact .inl k
   ·exact .inr (.inr k)
theorem turns {T : List Ty} {cs : List Cl} {ea eb : ByteArray} {a b : List At} (ha : NmE T cs ea a) (hb : NmE T cs eb b) (h32 : (sortU (names a ++ names b)).length ≤ 32) : modsR T a (difL a b) = (b, 0) := by
 obtain ⟨l', P', h1, h2, h3⟩ := tn_all (T := T) (a := a) (b := b) (K := sortU (names a ++ names b)) (fun m hm => sortU_mem.2 hm) h32 (sortU (names a ++ names b)) [] a (fun n hn => ⟨hn, nm_k ha hb (sortU_mem.1 hn)⟩) (asc_nodup (sortU_asc _)) (fun _ _ h => by cases h) ⟨ha.nof, fun n => ⟨fun q => (List.not_mem_nil q).elim, fun _ => rfl⟩⟩
 have e : l' = b := nf_ext h2.nof hb.nof fun n v => by
  rw [← hl_low h2.nof.low, ← hl_low hb.nof.low, ← vals_mem, ← vals_mem]
  by_cases k : n ∈ P'
  ·rw [(h2.val n).1 k]
  ·rw [(h2.val n).2 k]
   have hn : n ∉ names a ++ names b := fun q => k ((h3 n).2 (.inl (sortU_mem.2 q)))
   have e1 : vals a n = [] := Classical.byContradiction fun e => hn (List.mem_append.2 (.inl (names_vals.2 e)))
   have e2 : vals b n = [] := Classical.byContradiction fun e => hn (List.mem_append.2 (.inr (names_vals.2 e)))
   rw [e1, e2]
 rw [e] at h1; exact h1
theorem ap_turns {T : List Ty} {cs : List Cl} {en : ByteArray} {a b : List At} (ha : NmE T cs en a) (hb : NmE T cs en b) (h32 : (sortU (names a ++ names b)).length ≤ 32) (hD : (difL a b).length ≤ 32) :
  apE T cs en a (difL a b) = 0 ∧ apN T cs en a (difL a b) = en ∧ apL T cs en a (difL a b) = b := by
 have ht := turns ha hb h32
 obtain ⟨e1, _, _, e4⟩ := ha.en
 have h0 : apE T cs en a (difL a b) = 0 := by
  unfold apE
  rw [if_neg (fun k => k ⟨e1, ha.nm.2, e4⟩), if_neg (by omega), ht, if_neg (fun k => k rfl)]
  exact hb.vld
 unfold apN apL
 rw [if_pos h0, if_pos h0, ht]
 exact ⟨h0, rfl, rfl⟩
theorem both_len {a b : List At} (ha : NF a) (hb : NF b) : (sortU (names a ++ names b)).length ≤ a.length + (b.filter fun x => decide ((vals a x.1).length = 0)).length := by
 have ea : a.map (·.1) = names a := (congrArg (List.map (·.1)) (nf_id ha)).symm.trans (nf_names a)
 have eb : b.map (·.1) = names b := (congrArg (List.map (·.1)) (nf_id hb)).symm.trans (nf_names b)
 have := nodup_sub_len (l := sortU (names a ++ names b)) (K := a.map (·.1) ++ (b.filter fun x => decide ((vals a x.1).length = 0)).map (·.1)) (asc_nodup (sortU_asc _)) fun n hn => by
  by_cases k : n ∈ names a
  ·exact List.mem_append.2 (.inl (by rw [ea]; exact k))
  ·have k2 : n ∈ names b := (List.mem_append.1 (sortU_mem.1 hn)).elim (fun q => absurd q k) id
   have k3 : vals a n = [] := Classical.byContradiction fun e => k (names_vals.2 e)
   rw [← eb] at k2
   obtain ⟨x, hx, rfl⟩ := List.mem_map.1 k2
   exact List.mem_append.2 (.inr (List.mem_map.2 ⟨x, List.mem_filter.2 ⟨hx, decide_eq_true (by rw [k3]; rfl)⟩, rfl⟩))
 rwa [List.length_append, List.length_map, List.length_map] at this
theorem dif1_same (n : ByteArray) {v : List ByteArray} (h : v ≠ []) : dif1 n v v = [] := by
 have h0 : v.length ≠ 0 := fun e => h (List.length_eq_zero_iff.1 e)
 have hm : minusL v v = [] := by
  unfold minusL
  refine List.filter_eq_nil_iff.2 fun x hx => ?_
  rw [memB_iff.2 hx]; decide
 unfold dif1
 rw [if_neg h0, hm, if_neg (fun k => h0 k.2.symm)]; rfl
theorem dif_same (a : List At) : difL a a = [] := by
 unfold difL
 refine List.flatMap_eq_nil_iff.2 fun n hn => dif1_same n (names_vals.1 ?_)
 exact (List.mem_append.1 (sortU_mem.1 hn)).elim id id
theorem dif_nil {T : List Ty} {cs : List Cl} {ea eb : ByteArray} {a b : List At} (ha : NmE T cs ea a) (hb : NmE T cs eb b) (h32 : (sortU (names a ++ names b)).length ≤ 32) : (difL a b).length = 0 ↔ nf a = nf b := by
 rw [nf_id ha.nof, nf_id hb.nof]
 constructor
 ·intro h
  have h1 := turns ha hb h32
  rw [List.length_eq_zero_iff.1 h] at h1
  exact congrArg Prod.fst h1
 ·intro h
  rw [h, dif_same]; rfl
def entW : ByteArray := ⟨#[101, 110, 116, 114, 121]⟩
def lineB (wd s : ByteArray) : List UInt8 := wd.data.toList ++ 32 :: (escL s.data.toList ++ [10])
def valsB (nm : ByteArray) (vs : List ByteArray) : List UInt8 := vs.flatMap (lineB nm)
def attsB (L : List At) : List UInt8 := L.flatMap fun a => valsB a.1 a.2
def entB (en : ByteArray) (l : List At) : List UInt8 := lineB entW en ++ attsB (nf l)
def txV (en : ByteArray) (l : List At) : ByteArray := if enC en l = 0 then ⟨(entB en l).toArray⟩ else ⟨#[]⟩
theorem valsB_take (nm : ByteArray) (vs : List ByteArray) (k : Nat) (h : k < vs.length) : valsB nm (vs.take (k + 1)) = valsB nm (vs.take k) ++ lineB nm (partAt vs k) := by
 unfold valsB
 rw [take_snoc vs k h, List.flatMap_append]; simp
theorem attsB_take (L : List At) (k : Nat) (h : k < L.length) : attsB (L.take (k + 1)) = attsB (L.take k) ++ valsB (atD L k).1 (atD L k).2 := by
 unfold attsB
 rw [at_take L k h, List.flatMap_append]; simp
theorem lineB_le (wd s : ByteArray) : (lineB wd s).length ≤ wd.size + 3 * s.size + 2 := by
 unfold lineB
 have := escL_length s.data.toList
 have h1 : s.data.toList.length = s.size := str_len s
 have h2 : wd.data.toList.length = wd.size := str_len wd
 rw [List.length_append, List.length_cons, List.length_append, List.length_cons, List.length_nil]
 omega
theorem valsB_le {nm : ByteArray} (hn : nm.size ≤ 300) : ∀ {vs : List ByteArray}, (∀ v ∈ vs, v.size ≤ 300) → (valsB nm vs).length ≤ vs.length * 2000
 | [], _ => Nat.zero_le _
 | v :: vs, h => by
  have ih := valsB_le hn (vs := vs) fun x hx => h x (List.mem_cons_of_mem _ hx)
  have h1 := lineB_le nm v
  have h2 := h v List.mem_cons_self
  unfold valsB at ih ⊢
  rw [List.flatMap_cons, List.length_append, List.length_cons]
  omega
theorem attsB_le : ∀ {L : List At}, (∀ a ∈ L, AtS a) → (attsB L).length ≤ L.length * 40000
 | [], _ => Nat.zero_le _
 | a :: L, h => by
  have ih := attsB_le (L := L) fun x hx => h x (List.mem_cons_of_mem _ hx)
  have ha := h a List.mem_cons_self
  have h1 := valsB_le ha.nm ha.each
  have h2 := ha.len
  unfold attsB at ih ⊢
  rw [List.flatMap_cons, List.length_append, List.length_cons]
  omega
set_option maxHeartbeats 4000000 in
theorem line_s (wd s : ByteArray) (w : World) (hw : wd.size ≤ 1100000) (hs : s.size ≤ 1100000) :
  Calls Tryz.prog 50 #[.string wd, .string s] w fun e w' => e = .returned (.string ⟨(lineB wd s).toArray⟩) ∧ Below w.heap.size w w' := by
 have HE := Lib.hid (escape_any s w (by omega))
 have hl := escL_length s.data.toList
 rw [str_len] at hl
 obtain ⟨es, hes⟩ : ∃ es : ByteArray, (⟨(escL s.data.toList).toArray⟩ : ByteArray) = es := ⟨_, rfl⟩
 have hsz : es.size ≤ 3400000 := by rw [← hes, Lib.size_mk]; omega
 have HR := Lib.hid (show (⟨(lineB wd s).toArray⟩ : ByteArray) = wd ++ ⟨#[32]⟩ ++ es ++ ⟨#[10]⟩ by
  rw [← hes]
  apply ba_ext
  unfold lineB
  simp [ByteArray.data_append])
 rw [hes] at HE
 clear hes hl
 rw [HR.out]
 go_enter Tryz.func50, Tryz.ntmps50
 go_wp2_with fail
 refine HE.out.mono ?_
 rintro e w1 ⟨rfl, hb⟩
 go_wp2_with fail
 go_ret
 exact ⟨rfl, hb⟩
def EKeep (w w' : World) : Prop := ∀ (X : Nat) (cs : Array Value) (t : TypeId) (m : Nat × Nat), (t = 41 ∨ t = 9) → w.heap[X]? = some (.cells cs t m) → w'.heap[X]? = w.heap[X]?
theorem EKeep.refl (w : World) : EKeep w w := fun _ _ _ _ _ _ => rfl
theorem EKeep.trans {a b c : World} (h : EKeep a b) (k : EKeep b c) : EKeep a c := fun X cs t m ht e => by
 have h1 := h X cs t m ht e
 rw [k X cs t m ht (by rw [h1]; exact e), h1]
theorem EKeep.below {w w' : World} (h : Below w.heap.size w w') : EKeep w w' := fun X cs t m ht e => by
 refine h.block X ?_
 rcases Nat.lt_or_ge X w.heap.size with h' | h'
 ·exact h'
 ·simp [Array.getElem?_eq_none h'] at e
theorem EKeep.setCell {w wx : World} (h : EKeep w wx) {b : Nat} {cs : Array Value} {m : Nat × Nat} (hb : wx.heap[b]? = some (.cells cs 95 m)) (j : Nat) (v : Value) : EKeep w (wx.setCell ⟨b, j, none⟩ v) := fun X cs2 t m2 ht e => by
 have h1 := h X cs2 t m2 ht e
 have hne : X ≠ b := fun e2 => by
  rw [e2] at h1 e
  rw [h1, e] at hb
  have := Option.some.inj hb
  have h3 : t = 95 := by injection this
  rcases ht with ht | ht <;> rw [ht] at h3 <;> exact absurd h3 (by decide)
 rw [Below.heap_setCell _ _ _ _ hne, h1]
theorem EKeep.grown {w wx w' : World} (h : EKeep w wx) {v : Value} {B n : Nat} {xs : List Value} (hown : wx.ownsRow B 5 1 v n xs) (hg : wx.grownBy w' v.ownBlock) : EKeep w w' := fun X cs t m ht e => by
 have h1 := h X cs t m ht e
 have h2 : wx.heap[X]? = some (.cells cs t m) := by rw [h1]; exact e
 have hlt : X < wx.heap.size := by
  rcases Nat.lt_or_ge X wx.heap.size with h' | h'
  ·exact h'
  ·simp [Array.getElem?_eq_none h'] at h2
 have hne : v.ownBlock ≠ some X := by
  rcases ht with ht | ht <;> subst ht
  ·exact Lib.ownBlock_ne hown h2 (by decide)
  ·exact Lib.ownBlock_ne hown h2 (by decide)
 rw [hg.block X hlt (fun e2 => hne e2.symm), h1]
theorem check_any_e (B b : Nat) (bs : List Value) (w : World) (h : Lib.IsBuilder 95 5 B b bs w) :
  Calls Tryz.prog 97 #[.pointer (some ⟨b, 0, none⟩)] w fun e w' => e = .returned (.tuple #[]) ∧ (Lib.BuilderAt 95 5 B b (.pointer (some ⟨b, 0, none⟩)) bs w' ∧ Below B w w') ∧ EKeep w w' := by
 rcases h with h | h
 ·refine (check_fresh b w h.cell0 h.shape h.frozen0).mono ?_
  rintro e w' ⟨rfl, rfl⟩
  refine ⟨rfl, ⟨h.used _, (Below.refl B w).setCell (p := ⟨b, 0, none⟩) h.1 _⟩, ?_⟩
  obtain ⟨hB, v, hbk, _⟩ := h
  exact (EKeep.refl w).setCell hbk 0 _
 ·refine (check_used b w h.cell0).mono ?_
  rintro e w' ⟨rfl, rfl⟩
  exact ⟨rfl, ⟨h, Below.refl B _⟩, EKeep.refl _⟩
set_option maxHeartbeats 2000000 in
set_option maxRecDepth 100000 in
theorem writeString_ek (B b : Nat) (bs : List Value) (s : ByteArray) (w : World) (h : Lib.IsBuilder 95 5 B b bs w) (hlen : bs.length + s.size ≤ 140737488355328) (hBw : B ≤ w.heap.size) :
  Calls Tryz.prog 49 #[.pointer (some ⟨b, 0, none⟩), .string s] w fun e w' => e = .returned (.tuple #[.int .i64 s.size, .nilIface]) ∧ (Lib.BuilderAt 95 5 B b (.pointer (some ⟨b, 0, none⟩)) (bs ++ Lib.strCells s) w' ∧ Below B w w') ∧ EKeep w w' := by
 obtain ⟨i0, hi, hz0, hz1, hz2⟩ := info_parts info5
 go_enter Tryz.func49, Tryz.ntmps49
 go_wp2_with (go_at_call 97; refine (check_any_e B b bs _ h).mono ?_)
 rintro e w1 ⟨rfl, ⟨h1, hb1⟩, hk1⟩
 obtain ⟨hB, v, hbk, hown, hne⟩ := h1
 have c1 : w1.cell? ⟨b, 1, none⟩ = some v := by rw [Lib.cell_of_heap hbk]; rfl
 have HZ := hb1.size
 have hlt : b < w1.heap.size := by
  rcases Nat.lt_or_ge b w1.heap.size with h' | h'
  ·exact h'
  ·simp [Array.getElem?_eq_none h'] at hbk
 go_wp2_with (at_builtin; refine Lib.wpList_append_own_string w1 ?_ (.tmp 12) (.tmp 13) 93 9 ?_ B 5 i0 Tryz.underlying93 Tryz.underlying9 hi hz0 hz1 hz2 v bs.length bs ?_ hown s ?_ ?_ ?_ ?_ ?_; exact rfl; exact rfl; exact rfl; exact rfl; (unfold maxLen; omega); omega; omega)
 intro v' w2 hown' hgrow hnil
 have hk2 : EKeep w w2 := hk1.grown hown hgrow
 have hb2 : w2.heap[b]? = some (.cells #[.pointer (some ⟨b, 0, none⟩), v] 95 (0, 0)) := by
  rw [hgrow.block b hlt (fun e => hne e.symm)]
  exact hbk
 have d1 : w2.cell? ⟨b, 1, none⟩ = some v := by rw [Lib.cell_of_heap hb2]; rfl
 have f1 : w2.frozen? ⟨b, 1, none⟩ = false := Lib.frozen_of_heap hb2 1
 have hlen' : (bs ++ Lib.strCells s).length = bs.length + s.size := by simp [Lib.strCells_length]
 have hbel : Below B w w2 := hb1.grown hgrow (by omega) (fun k hk => (hown.lt k hk).1)
 have hcase : v' = .slice none 0 0 ∨ ∃ g n cap, v' = .slice (some ⟨g, 0, none⟩) n cap := by
  rcases hown'.2 with ⟨h, h0⟩ | ⟨g, cap, cur, hv, _⟩
  ·exact .inl h
  ·exact .inr ⟨g, _, cap, hv⟩
 rcases hcase with rfl | ⟨g, n, cap, rfl⟩
 ·go_wp2
  go_ret2
  refine ⟨rfl, ⟨?_, hbel.setCell (p := ⟨b, 1, none⟩) hB _⟩, hk2.setCell hb2 1 _⟩
  exact Lib.BuilderAt.put (T := 95) (e := 5) hB hb2 (bs' := bs ++ Lib.strCells s) (by rw [hlen']; exact hown') (by decide)
 ·go_wp2
  go_ret2
  refine ⟨rfl, ⟨?_, hbel.setCell (p := ⟨b, 1, none⟩) hB _⟩, hk2.setCell hb2 1 _⟩
  exact Lib.BuilderAt.put (T := 95) (e := 5) hB hb2 (bs' := bs ++ Lib.strCells s) (by rw [hlen']; exact hown') (by decide)
theorem writeString_e (B b : Nat) (l : List UInt8) (s : ByteArray) (w : World) (h : Bld B b l w) (hlen : l.length + s.size ≤ 100000000000) (hBw : B ≤ w.heap.size) :
  Calls Tryz.prog 49 #[.pointer (some ⟨b, 0, none⟩), .string s] w fun e w' => e = .returned (.tuple #[.int .i64 s.size, .nilIface]) ∧ Bld B b (l ++ s.data.toList) w' ∧ Below B w w' ∧ EKeep w w' := by
 refine (writeString_ek B b (bcells l) s w h (by rw [bcells_length]; omega) hBw).mono fun e w' h => ⟨h.1, ?_, h.2.1.2, h.2.2⟩
 unfold Bld
 rw [bcells_append, ← strCells_b]
 exact .inr h.2.1.1
theorem EKeep.row {w w' : World} {base size n : Nat} {e : TypeId} {v : Value} {xs : List Value} (k : EKeep w w') (he : e = 41 ∨ e = 9) (h : w.ownsRow base e size v n xs) : w'.ownsRow base e size v n xs := by
 refine ⟨h.1, ?_⟩
 rcases h.2 with q | ⟨g, cap, cur, e1, h2, h3, h4⟩
 ·exact .inl q
 ·exact .inr ⟨g, cap, cur, e1, h2, (k g _ _ _ he h3).trans h3, h4⟩
theorem EKeep.own {w w' : World} {base : Nat} {v : Value} {T : List Tr} (k : EKeep w w') (h : TOwn w base v T) : TOwn w' base v T := fun t ht => ⟨k.row (.inr rfl) (h t ht).1, (h t ht).2⟩
structure TxI (w W0 : World) (b base : Nat) (v : Value) (U : List Tr) (t : List UInt8) (wr : World) : Prop where
 bld : Bld b b t wr
 row : wr.ownsRow base 41 2 v U.length (tcells U)
 own : TOwn wr base v U
 low : Below b W0 wr
 big : b < wr.heap.size
theorem TxI.below {w W0 wr V : World} {b base : Nat} {v : Value} {U : List Tr} {t : List UInt8} (h : TxI w W0 b base v U t wr) (hb : Below wr.heap.size wr V) : TxI w W0 b base v U t V :=
 ⟨h.bld.below hb, own_below h.row hb, h.own.below hb, h.low.trans (hb.mono (Nat.le_of_lt h.big)), Nat.lt_of_lt_of_le h.big hb.size⟩
theorem TxI.wrote {w W0 wr V : World} {b base : Nat} {v : Value} {U : List Tr} {t t' : List UInt8} (h : TxI w W0 b base v U t wr) (hB : Bld b b t' V) (hb : Below b wr V) (k : EKeep wr V) : TxI w W0 b base v U t' V :=
 ⟨hB, k.row (.inl rfl) h.row, k.own h.own, h.low.trans hb, Nat.lt_of_lt_of_le h.big hb.size⟩
set_option maxHeartbeats 16000000 in
theorem text_s (en : ByteArray) (ao : Option Addr) (n cap : Nat) (l : List At) (w : World) (hen : en.size ≤ 1100000) (ha : AttrsAt w ao n cap l) (hS : SmallA l) (hF : FewV l) :
  Calls Tryz.prog 20 #[.agg #[.string en, .slice ao n cap]] w fun e w' => e = .returned (.tuple #[.string (txV en l), .int .i64 (enC en l)]) ∧ Below w.heap.size w w' := by
 have HA := Lib.hid ha; clear ha
 have hb0 := below_al w (.cells #[.string en, .slice ao n cap] 28)
 have HK := Lib.hid (kbl_new w (.cells #[.string en, .slice ao n cap] 28))
 have HCk := Lib.hid (enCheck_s en ao n cap l _ hen (HA.out.below hb0) hS hF)
 have HB0 := Lib.hid hb0
 obtain ⟨c, hc⟩ : ∃ c, enC en l = c := ⟨_, rfl⟩
 rw [hc] at HCk ⊢
 have HC := Lib.hid hc
 obtain ⟨e0, e1⟩ : (w.alloc (.cells #[.string en, .slice ao n cap] 28)).cell? ⟨w.heap.size, 0, none⟩ = some (.string en) ∧ (w.alloc (.cells #[.string en, .slice ao n cap] 28)).cell? ⟨w.heap.size, 1, none⟩ = some (.slice ao n cap) := ⟨HK.out.cell rfl, HK.out.cell rfl⟩
 clear hb0 hc
 go_enter Tryz.func20, Tryz.ntmps20
 go_wp2_with fail
 refine HCk.out.mono ?_
 rintro e w1 ⟨rfl, hb⟩
 have HB1 := Lib.hid (HB0.out.trans (hb.mono HB0.out.size))
 have HK1 := Lib.hid (HK.out.step hb)
 clear hb e0 e1 HCk HB0
 by_cases h0 : c = 0
 ·subst h0
  have HLt := Lib.hid (show chkA l = 0 from by
   have h := HC.out
   unfold enC at h
   split at h
   ·cases h
   ·exact h)
  have HLi := Lib.hid (chk_light HLt.out)
  have hbl := below_al w1 (.cells #[.pointer none, .slice none 0 0] 95)
  have HBd := Lib.hid (bld_new w1)
  have HK2 := Lib.hid (HK1.out.step hbl)
  have HB2 := Lib.hid (HB1.out.trans (hbl.mono HB1.out.size))
  have hs2 : w1.heap.size < (w1.alloc (.cells #[.pointer none, .slice none 0 0] 95)).heap.size := by simp
  have HLn := Lib.hid (line_s entW en (w1.alloc (.cells #[.pointer none, .slice none 0 0] 95)) (by decide) hen)
  have hll := lineB_le entW en
  have hew : entW.size = 5 := by decide
  have HRw := Lib.hid (show entW = ⟨#[101, 110, 116, 114, 121]⟩ from rfl)
  rw [HRw.out] at HLn
  obtain ⟨e0, e1⟩ : (w1.alloc (.cells #[.pointer none, .slice none 0 0] 95)).cell? ⟨w.heap.size, 0, none⟩ = some (.string en) ∧ (w1.alloc (.cells #[.pointer none, .slice none 0 0] 95)).cell? ⟨w.heap.size, 1, none⟩ = some (.slice ao n cap) := ⟨HK2.out.cell rfl, HK2.out.cell rfl⟩
  clear hbl
  go_wp2_with fail
  refine HLn.out.mono ?_
  rintro e w2 ⟨rfl, hb⟩
  have HBd2 := Lib.hid (HBd.out.below hb)
  have HK3 := Lib.hid (HK2.out.step hb)
  have HB3 := Lib.hid (HB2.out.trans (hb.mono HB2.out.size))
  have hlow2 : Below w1.heap.size w1 w2 := (below_al w1 _).trans (hb.mono (Nat.le_of_lt hs2))
  have hs3 : w1.heap.size < w2.heap.size := Nat.lt_of_lt_of_le hs2 hb.size
  obtain ⟨ln, hln⟩ : ∃ s : ByteArray, (⟨(lineB ⟨#[101, 110, 116, 114, 121]⟩ en).toArray⟩ : ByteArray) = s := ⟨_, rfl⟩
  have hlz : ln.size ≤ 4000000 := by ((rw [← hln, Lib.size_mk]; have := lineB_le ⟨#[101, 110, 116, 114, 121]⟩ en; have h5 : (⟨#[101, 110, 116, 114, 121]⟩ : ByteArray).size = 5 := by decide); omega)
  have HLn2 := Lib.hid (show ln.data.toList = lineB entW en by rw [← hln, HRw.out])
  rw [hln]
  clear hb e0 e1 HLn hll hew hln
  go_wp2_with fail
  refine (writeString_e w1.heap.size w1.heap.size [] ln w2 HBd2.out (by simp; omega) (Nat.le_of_lt hs3)).mono ?_
  rintro e w3 ⟨rfl, hbd, hb, hke⟩
  have HBd3 := Lib.hid (show Bld w1.heap.size w1.heap.size (lineB entW en) w3 by rw [← HLn2.out]; simpa using hbd)
  have HK4 := Lib.hid (show Kb w3 w.heap.size (.cells #[.string en, .slice ao n cap] 28) from (hb.block _ HK1.out.big).trans HK3.out)
  have HB4 := Lib.hid (HB3.out.trans (hb.mono HB1.out.size))
  have hs4 : w1.heap.size < w3.heap.size := Nat.lt_of_lt_of_le hs3 hb.size
  have HL4 := Lib.hid (show Below w1.heap.size w1 w3 from hlow2.trans hb)
  obtain ⟨e0, e1⟩ : w3.cell? ⟨w.heap.size, 0, none⟩ = some (.string en) ∧ w3.cell? ⟨w.heap.size, 1, none⟩ = some (.slice ao n cap) := ⟨HK4.out.cell rfl, HK4.out.cell rfl⟩
  have HSo := Lib.hid (sorted_s ao n cap l w3 (HA.out.below HB4.out) HLi.out.few)
  clear hb hbd hke hlow2
  go_wp2_with fail
  refine HSo.out.mono ?_
  rintro e w4 ⟨v, U, rfl, hU, hO, _, hrow, hb⟩
  obtain ⟨so, sc, rfl⟩ := row_slice hrow
  have HI := Lib.hid (show TxI w w1 w1.heap.size w3.heap.size (.slice so U.length sc) U (lineB entW en) w4 from
   ⟨HBd3.out.below hb, hrow, hO, HL4.out.trans (hb.mono (Nat.le_of_lt hs4)), Nat.lt_of_lt_of_le hs4 hb.size⟩)
  have HU := Lib.hid hU
  have HAl := Lib.hid (chk_light (nf_chk HLt.out))
  obtain ⟨m, hm⟩ : ∃ m, U.length = m := ⟨_, rfl⟩
  have hrl : (nf l).length = m := by rw [← hm, ← hU, tats_len]
  have hm40 : m ≤ 40 := by have := HAl.out.len; omega
  have HM := Lib.hid (And.intro hm hrl)
  obtain ⟨b1, hb1⟩ : ∃ x, w1.heap.size = x := ⟨_, rfl⟩
  have hws : w.heap.size ≤ w1.heap.size := HB1.out.size
  have HX1 := Lib.hid HB1.out
  rw [hm] at HI ⊢
  rw [hb1] at HI
  clear hb hU hO hrow HSo e0 e1 hm hrl HL4 HB4 HK4 HBd3
  have hz0 : ((lineB entW en).length) ≤ 4000000 := by rw [← HLn2.out, str_len]; exact hlz
  go_wp2_with fail
  go_loopw [7, 9, 23, 30] (fun _ _ s23 _ wr => ∃ (i : Nat), i ≤ m ∧ s23 = .int .i64 i ∧ Hid (TxI w w1 b1 w3.heap.size (.slice so m sc) U (lineB entW en ++ attsB ((nf l).take i)) wr)) (fun _ _ s23 _ _ => m - (intOf s23).toNat)
  case atStart => exact ⟨0, Nat.zero_le _, rfl, by simpa [attsB] using HI⟩
  case round =>
   clear HI
   obtain ⟨i, hi, rfl, HI⟩ := hrel
   have hbig := HI.out.big
   by_cases hlt : i < m
   ·have d1 : (i : Int) < (m : Int) := by omega
    obtain ⟨g, rfl⟩ : ∃ g, so = some ⟨g, 0, none⟩ := by
     have hr := HI.out.row
     rw [HM.out.1] at hr
     rcases hr.2 with ⟨e, _⟩ | ⟨g, cp, cur, e, _⟩
     ·simp only [Value.slice.injEq] at e
      omega
     ·simp only [Value.slice.injEq] at e
      exact ⟨g, e.1⟩
    have hiU : i < U.length := by rw [HM.out.1]; exact hlt
    obtain ⟨s1, s2⟩ : (U.getD i default).1 = (atD (nf l) i).1 ∧ (U.getD i default).2.2 = (atD (nf l) i).2 := by
     have := tats_at hiU; rw [HU.out] at this; rw [this]; exact ⟨rfl, rfl⟩
    have hmem : U.getD i default ∈ U := by
     rw [List.getD_eq_getElem?_getD, List.getElem?_eq_getElem hiU]; exact List.getElem_mem _
    have hOwn : ∃ vo vc, (U.getD i default).2.1 = .slice vo (atD (nf l) i).2.length vc ∧ ∀ V, TxI w w1 b1 w3.heap.size (.slice (some ⟨g, 0, none⟩) m sc) U (lineB entW en ++ attsB ((nf l).take i)) V ∨ True → TOwn V w3.heap.size (.slice (some ⟨g, 0, none⟩) m sc) U → StrsAt V vo (atD (nf l) i).2.length vc (atD (nf l) i).2 := by
     obtain ⟨vo, vc, e, _⟩ := strs_own (HI.out.own _ hmem).1 rfl
     rw [s2] at e
     refine ⟨vo, vc, e, fun V _ hV => ?_⟩
     obtain ⟨vo', vc', e', hst'⟩ := strs_own (hV _ hmem).1 rfl
     rw [s2] at e' hst'
     rw [e] at e'
     simp only [Value.slice.injEq] at e'
     obtain ⟨rfl, _, rfl⟩ := e'
     exact hst'
    obtain ⟨vo, vc, ev, hst⟩ := hOwn
    obtain ⟨t1, t2⟩ := etc_at hiU
    have c1 := HI.out.row.cells (g := g) rfl _ _ t1
    have c2 := HI.out.row.cells (g := g) rfl _ _ t2
    rw [Go.WideShapes.add_plain, Nat.zero_add] at c1 c2
    rw [s1] at c1
    rw [ev] at c2
    have hTk := attsB_take (nf l) i (by rw [HM.out.2]; exact hlt)
    have hAt := HAl.out.each (atD (nf l) i) (by rw [at_get (nf l) i (by rw [HM.out.2]; exact hlt)]; exact List.getElem_mem _)
    have hpre := attsB_le (L := (nf l).take i) (fun a h => HAl.out.each a (List.mem_of_mem_take h))
    rw [List.length_take] at hpre
    have hpre2 : (attsB ((nf l).take i)).length ≤ 1600000 := by ((have : min i (nf l).length ≤ 40 := by omega); omega)
    obtain ⟨pre, hpr⟩ : ∃ x, lineB entW en ++ attsB ((nf l).take i) = x := ⟨_, rfl⟩
    have hprl : pre.length ≤ 5600000 := by rw [← hpr, List.length_append]; omega
    obtain ⟨nm, hnm⟩ : ∃ x, (atD (nf l) i).1 = x := ⟨_, rfl⟩
    obtain ⟨vs, hvs⟩ : ∃ x, (atD (nf l) i).2 = x := ⟨_, rfl⟩
    have hA1 := hAt.nm
    have hA2 := hAt.len
    have hA3 := hAt.each
    rw [hnm, hvs] at hTk
    rw [hnm] at c1 hA1
    rw [hvs] at c2 hst hA2 hA3
    have HA3 := Lib.hid hA3
    obtain ⟨vn, hvn⟩ : ∃ x, vs.length = x := ⟨_, rfl⟩
    rw [hvn] at c2 hst hA2
    have HVn := Lib.hid hvn
    have HSt := Lib.hid hst
    have HTk := Lib.hid (show lineB entW en ++ attsB ((nf l).take (i + 1)) = pre ++ valsB nm vs by rw [hTk, ← List.append_assoc, hpr])
    rw [hpr] at HI
    have hbl := below_al wr (.cells #[.string nm, .slice vo vn vc] 41)
    have HI4 := Lib.hid (HI.out.below hbl)
    have HKb := Lib.hid (kbl_new wr (.cells #[.string nm, .slice vo vn vc] 41))
    clear hnm hvs hAt hA3 hvn hst hTk hpre hpre2 hpr hbl s1 s2 hmem hiU t1 t2 ev
    go_wp2_with fail
    obtain ⟨g7, hg7⟩ : ∃ x, wr.heap.size = x := ⟨_, rfl⟩
    rw [hg7] at HKb ⊢
    go_loopw [9, 30] (fun _ s30 wx => ∃ (k : Nat), k ≤ vn ∧ s30 = .int .i64 k ∧ Hid (TxI w w1 b1 w3.heap.size (.slice (some ⟨g, 0, none⟩) m sc) U (pre ++ valsB nm (vs.take k)) wx) ∧ Hid (Kb wx g7 (.cells #[.string nm, .slice vo vn vc] 41))) (fun _ s30 _ => vn - (intOf s30).toNat)
    case atStart => exact ⟨0, Nat.zero_le _, rfl, by simpa [valsB] using HI4, HKb⟩
    case round =>
     clear HI4 HKb c1 c2 hg7
     obtain ⟨k, hk, rfl, HIk, HKk⟩ := hrel
     have hbigk := HIk.out.big
     by_cases hkl : k < vn
     ·have d2 : (k : Int) < (vn : Int) := by omega
      have hst := HSt.out wr (.inr trivial) HIk.out.own
      obtain ⟨vb, voff, rfl, hvb, hvs⟩ := hst.2.2.2 (by omega)
      have hvc := hvs k (by rw [HVn.out]; exact hkl)
      have hvz := HA3.out _ (part_mem vs k (by rw [HVn.out]; exact hkl))
      have HTv := Lib.hid (valsB_take nm vs k (by rw [HVn.out]; exact hkl))
      have hpv := valsB_le hA1 (vs := vs.take k) (fun x h => HA3.out x (List.mem_of_mem_take h))
      rw [List.length_take] at hpv
      have hpv2 : (pre ++ valsB nm (vs.take k)).length ≤ 6000000 := by ((rw [List.length_append]; have : min k vs.length ≤ 20 := by omega); omega)
      obtain ⟨s, hs⟩ : ∃ x, partAt vs k = x := ⟨_, rfl⟩
      rw [hs] at hvc hvz HTv
      clear hs hvs hst hpv
      have k0 := HKk.out.cell (i := 0) rfl
      have k1 := HKk.out.cell (i := 1) rfl
      have HLs := Lib.hid (line_s nm s wr (by omega) (by omega))
      obtain ⟨q, hq⟩ : ∃ x, pre ++ valsB nm (vs.take k) = x := ⟨_, rfl⟩
      have HQ := Lib.hid hq
      rw [hq] at HIk hpv2
      obtain ⟨ls, hls⟩ : ∃ x : ByteArray, (⟨(lineB nm s).toArray⟩ : ByteArray) = x := ⟨_, rfl⟩
      have hlz2 : ls.size ≤ 4000000 := by rw [← hls, Lib.size_mk]; have := lineB_le nm s; omega
      have HLq := Lib.hid (show q ++ ls.data.toList = pre ++ valsB nm (vs.take (k + 1)) by rw [HTv.out, ← hq, ← hls, List.append_assoc])
      rw [hls] at HLs
      clear hq hls
      go_wp2_with fail
      refine HLs.out.mono ?_
      rintro e w5 ⟨rfl, hb⟩
      have HI5 := Lib.hid (HIk.out.below hb)
      have HK5 := Lib.hid (HKk.out.step hb)
      clear hb k0 k1 hvc
      go_wp2_with fail
      refine (writeString_e b1 b1 q ls w5 HI5.out.bld (by omega) (Nat.le_of_lt HI5.out.big)).mono ?_
      rintro e w6 ⟨rfl, hbd, hb, hke⟩
      have HI6 := Lib.hid (HI5.out.wrote hbd hb hke)
      have HK6 := Lib.hid (show Kb w6 g7 (.cells #[.string nm, .slice (some ⟨vb, voff, none⟩) vn vc] 41) from (hke g7 _ _ _ (.inl rfl) HK5.out).trans HK5.out)
      clear hbd hb hke
      go_wp2_with fail
      go_roundw
      case rel => exact ⟨k + 1, by omega, by go_num, by rw [← HLq.out]; exact HI6, HK6⟩
      case measure => simp [intOf]; omega
     ·obtain rfl : k = vn := by omega
      have d2 : ¬ (k : Int) < (k : Int) := by omega
      have HI7 := Lib.hid (show TxI w w1 b1 w3.heap.size (.slice (some ⟨g, 0, none⟩) m sc) U (lineB entW en ++ attsB ((nf l).take (i + 1))) wr by
       have h := HIk.out
       rw [show vs.take k = vs by rw [← HVn.out]; exact List.take_length] at h
       rw [HTk.out]; exact h)
      go_wp2_with fail
      go_roundw
      case rel => exact ⟨i + 1, by omega, by go_num, HI7⟩
      case measure => simp [intOf]; omega
   ·obtain rfl : i = m := by omega
    have d1 : ¬ (i : Int) < (i : Int) := by omega
    have HTx := Lib.hid (show lineB entW en ++ attsB ((nf l).take i) = entB en l by rw [← HM.out.2, List.take_length]; rfl)
    have HTv := Lib.hid (show txV en l = ⟨(entB en l).toArray⟩ from if_pos HC.out)
    rw [HTx.out] at HI
    go_wp2_with fail
    refine (string_s b1 b1 (entB en l) wr HI.out.bld (Nat.le_of_lt HI.out.big)).mono ?_
    rintro e w9 ⟨rfl, hb⟩
    have HBe := Lib.hid (show Below w.heap.size w w9 from HX1.out.trans ((HI.out.low.trans hb).mono (by omega)))
    clear hb
    go_wp2_with fail
    go_ret2
    exact ⟨by rw [HTv.out]; rfl, HBe.out⟩
 ·have d1 : (c != 0) = true := by simpa using h0
  have HE := Lib.hid (show txV en l = ⟨#[]⟩ from if_neg (by rw [HC.out]; exact h0))
  go_wp2_with fail
  go_ret2
  exact ⟨by rw [HE.out]; rfl, HB1.out⟩
set_option maxRecDepth 100000 in
set_option maxHeartbeats 2000000 in
theorem sameS8_s (ao bo : Option Addr) (n m cap dap : Nat) (ps qs : List ByteArray) (w : World) (h : StrsAt w ao n cap ps) (k : StrsAt w bo m dap qs) :
  Calls Tryz.prog 23 #[.slice ao n cap, .slice bo m dap] w fun e w' => e = .returned (.bool (decide (ps = qs))) ∧ Below w.heap.size w w' := by
 obtain ⟨h1, h2, h3, h4⟩ := h
 obtain ⟨k1, k2, k3, k4⟩ := k
 subst h1
 subst k1
 unfold maxLen at h3 k3
 have H4 := Lib.hid h4; clear h4
 have K4 := Lib.hid k4; clear k4
 by_cases hne : ps.length = qs.length
 ·have hn1 : ((ps.length : Int) != (qs.length : Int)) = false := by simp; omega
  go_enter Tryz.func23, Tryz.ntmps23
  go_wp2
  go_loopw [5] (fun i wr => ∃ k : Nat, k ≤ ps.length ∧ i = .int .i64 k ∧ Hid (∀ j, j < k → partAt ps j = partAt qs j) ∧ Below w.heap.size w wr) (fun i _ => ps.length - (intOf i).toNat)
  case atStart => exact ⟨0, Nat.zero_le _, rfl, Lib.hid (fun j hj => absurd hj (Nat.not_lt_zero _)), Below.refl _ _⟩
  case round =>
   obtain ⟨k, hk, rfl, HA, hbel⟩ := hrel
   by_cases hlt : k < ps.length
   ·obtain ⟨b, off, rfl, hs⟩ := H4.out (by omega)
    obtain ⟨c, off2, rfl, hs2⟩ := K4.out (by omega)
    have hcell := (hs.below hbel hs.1).2 k hlt
    have hcell2 := (hs2.below hbel hs2.1).2 k (by omega)
    clear hs hs2
    obtain ⟨p, hpe⟩ : ∃ p, p = partAt ps k := ⟨_, rfl⟩
    obtain ⟨q, hqe⟩ : ∃ q, q = partAt qs k := ⟨_, rfl⟩
    rw [← hpe] at hcell
    rw [← hqe] at hcell2
    have HP := Lib.hid hpe; clear hpe
    have HQ := Lib.hid hqe; clear hqe
    have k1 : (0 : Int) ≤ (k : Int) := by omega
    have k2 : (k : Int) < (ps.length : Int) := by omega
    have k3 : (k : Int) < (qs.length : Int) := by omega
    by_cases hpq : p = q
    ·have hq : (p.toList == q.toList) = true := by rw [hpq]; exact beq_self_eq_true _
     have HPQ := Lib.hid hpq; clear hpq
     go_wp2_with fail
     go_region_held3 (fun w' => w'.cell? ⟨b, off + k, none⟩ = some (.string p) ∧ w'.cell? ⟨c, off2 + k, none⟩ = some (.string q)) (go_keep) (fail)
     go_wp2
     go_roundw
     case rel =>
      refine ⟨k + 1, by omega, by go_num, Lib.hid fun j hj => ?_, hbel.drew⟩
      by_cases e : j = k
      ·rw [e, ← HP.out, ← HQ.out, HPQ.out]
      ·exact HA.out j (by omega)
     case measure => simp [intOf]; omega
    ·have HE := Lib.hid (show decide (ps = qs) = false from decide_eq_false fun e => hpq (by rw [HP.out, HQ.out, e]))
     have hq : (p.toList == q.toList) = false := by
      rw [Lib.toList_data, Lib.toList_data]
      exact beq_false_of_ne fun e => hpq (by rw [← Lib.mk_data p, ← Lib.mk_data q, e])
     clear hpq
     go_wp2_with fail
     go_region_held3 (fun w' => w'.cell? ⟨b, off + k, none⟩ = some (.string p) ∧ w'.cell? ⟨c, off2 + k, none⟩ = some (.string q)) (go_keep) (fail)
     go_wp2
     go_ret
     exact ⟨by rw [HE.out]; rfl, hbel.drew⟩
   ·have HE := Lib.hid (show decide (ps = qs) = true from decide_eq_true (strs_ext hne fun j hj => HA.out j (by omega)))
    go_wp2
    go_ret
    exact ⟨by rw [HE.out]; rfl, hbel⟩
 ·have HE := Lib.hid (show decide (ps = qs) = false from decide_eq_false fun e => hne (by rw [e]))
  have hn1 : ((ps.length : Int) != (qs.length : Int)) = true := by simp; omega
  go_enter Tryz.func23, Tryz.ntmps23
  go_wp2
  go_ret
  exact ⟨by rw [HE.out]; rfl, Below.refl _ _⟩
set_option maxRecDepth 100000 in
set_option maxHeartbeats 4000000 in
theorem sameA8_s (ao bo : Option Addr) (n m cap dap : Nat) (l k : List At) (w : World) (h : AttrsAt w ao n cap l) (h' : AttrsAt w bo m dap k) :
  Calls Tryz.prog 24 #[.slice ao n cap, .slice bo m dap] w fun e w' => e = .returned (.bool (decide (l = k))) ∧ Below w.heap.size w w' := by
 obtain ⟨h1, h2, h3, h4⟩ := h
 obtain ⟨k1, k2, k3, k4⟩ := h'
 subst h1
 subst k1
 unfold maxLen at h3 k3
 have H4 := Lib.hid h4; clear h4
 have K4 := Lib.hid k4; clear k4
 by_cases hne : l.length = k.length
 ·have hn1 : ((l.length : Int) != (k.length : Int)) = false := by simp; omega
  have HNE := Lib.hid hne
  clear hne
  go_enter Tryz.func24, Tryz.ntmps24
  go_wp2
  go_loopw [5] (fun i wr => ∃ q : Nat, q ≤ l.length ∧ i = .int .i64 q ∧ Hid (∀ j, j < q → atD l j = atD k j) ∧ Hid (Below w.heap.size w wr)) (fun i _ => l.length - (intOf i).toNat)
  case atStart => exact ⟨0, Nat.zero_le _, rfl, Lib.hid (fun j hj => absurd hj (Nat.not_lt_zero _)), Lib.hid (Below.refl _ _)⟩
  case round =>
   obtain ⟨q, hq, rfl, HA, HB⟩ := hrel
   by_cases hlt : q < l.length
   ·obtain ⟨b, off, rfl, hblt, hat⟩ := H4.out (by omega)
    obtain ⟨c, off2, rfl, hclt, hct⟩ := K4.out (by have := HNE.out; omega)
    obtain ⟨a0, vo, vn, vc, a1, hv0⟩ := hat q hlt
    obtain ⟨b0, uo, un, uc, b1, hu0⟩ := hct q (by have := HNE.out; omega)
    have a0 := cell_later HB.out a0
    have a1 := cell_later HB.out a1
    have b0 := cell_later HB.out b0
    have b1 := cell_later HB.out b1
    have HVd : Hid (StrsAt wr.drew vo vn vc (atD l q).2) := Lib.hid ((hv0.below HB.out).below (Below.refl _ wr).drew)
    have HUd : Hid (StrsAt wr.drew uo un uc (atD k q).2) := Lib.hid ((hu0.below HB.out).below (Below.refl _ wr).drew)
    clear hv0 hu0 hat hct
    obtain ⟨x, hx⟩ : ∃ x, atD l q = x := ⟨_, rfl⟩
    obtain ⟨y, hy⟩ : ∃ x, atD k q = x := ⟨_, rfl⟩
    rw [hx] at a0 HVd
    rw [hy] at b0 HUd
    have HX := Lib.hid hx
    have HY := Lib.hid hy
    clear hx hy
    obtain ⟨p, vs⟩ := x
    obtain ⟨r, us⟩ := y
    simp only [] at a0 b0 HVd HUd
    have d0 : (0 : Int) ≤ (q : Int) := by omega
    have d1 : (q : Int) < (l.length : Int) := by omega
    have d2 : (q : Int) < (k.length : Int) := by have := HNE.out; omega
    have HBd : Hid (Below w.heap.size w wr.drew ∧ w.heap.size ≤ wr.drew.heap.size) := Lib.hid ⟨HB.out.drew, HB.out.size⟩
    by_cases hpr : p = r
    ·have q1 : (p.toList == r.toList) = true := by rw [str_eq]; exact decide_eq_true hpr
     have q2 : (p.toList != r.toList) = false := by unfold bne; rw [q1]; rfl
     obtain ⟨z, hz⟩ : ∃ z, decide (vs = us) = z := ⟨_, rfl⟩
     have HZ := Lib.hid hz
     clear hz
     cases z with
     | true =>
      have HE := Lib.hid (show atD l q = atD k q by rw [HX.out, HY.out, hpr, of_decide_eq_true HZ.out])
      clear hpr
      go_wp2_with fail
      refine wp_region_held_drew (S := fun W => W.cell? ⟨b, off + q * 2, none⟩ = some (.string p) ∧ W.cell? ⟨c, off2 + q * 2, none⟩ = some (.string r) ∧ W.cell? ⟨b, off + q * 2 + 1, none⟩ = some (.slice vo vn vc) ∧ W.cell? ⟨c, off2 + q * 2 + 1, none⟩ = some (.slice uo un uc) ∧ Hid (Below w.heap.size w W ∧ w.heap.size ≤ W.heap.size)) (by kernel_rfl) (⟨a0, b0, a1, b1, HBd⟩) (fun hS => ?_)
      refine rgT 0 (some 17) ?_
      refine rgT 1 (some 18) ?_
      refine rgT 2 (some 19) ?_
      refine rgT 3 (some 20) ?_
      refine rgT 4 (some 21) ?_
      refine rgT 5 (some 22) ?_
      refine rgT 6 (some 23) ?_
      refine rgT 7 (some 24) ?_
      refine rgT 8 (some 25) ?_
      refine rgT 9 (some 26) ?_
      refine rgT 10 (some 27) ?_
      refine rgT 11 (some 28) ?_
      refine rgT 12 (some 29) ?_
      refine rgT 13 (some 30) ?_
      refine rgT 14 (some 31) ?_
      refine rgT 15 (some 32) ?_
      refine rgT 16 (some 33) ?_
      refine rgT 17 (some 34) ?_
      refine rgT 18 (some 35) ?_
      refine rgT 19 (some 36) ?_
      refine rgT 20 (some 37) ?_
      refine rgT 21 (some 38) ?_
      refine rgC 22 (fun K hK => ?_)
      go_simp
      refine (sameS8_s vo uo vn un vc uc vs us _ HVd.out HUd.out).mono ?_
      rintro e w5 ⟨rfl, hb⟩
      rw [HZ.out]
      go_wp2_with fail
      refine hK.out _ _ ?_ (fun hHeld => ?_)
      ·exact keep4b (by assumption) hb
      clear hK K
      try simp only [Act.put, lsA, lsZ, lsS]
      refine rgT 23 (some 40) ?_
      refine rgT 24 (some 41) ?_
      refine wpAnyH_done (by kernel_rfl) ?_ _
      have HB6 := Lib.hid (HBd.out.1.trans (hb.mono HBd.out.2))
      go_wp2_with fail
      go_roundw
      case rel =>
       refine ⟨q + 1, by omega, by go_num, Lib.hid fun j hj => ?_, HB6⟩
       by_cases e : j = q
       ·rw [e]; exact HE.out
       ·exact HA.out j (by omega)
      case measure => simp [intOf]; omega
     | false =>
      have HE := Lib.hid (show decide (l = k) = false from decide_eq_false fun e => of_decide_eq_false HZ.out (by have h5 := HX.out; rw [e, HY.out] at h5; exact (congrArg Prod.snd h5).symm))
      clear hpr
      go_wp2_with fail
      refine wp_region_held_drew (S := fun W => W.cell? ⟨b, off + q * 2, none⟩ = some (.string p) ∧ W.cell? ⟨c, off2 + q * 2, none⟩ = some (.string r) ∧ W.cell? ⟨b, off + q * 2 + 1, none⟩ = some (.slice vo vn vc) ∧ W.cell? ⟨c, off2 + q * 2 + 1, none⟩ = some (.slice uo un uc) ∧ Hid (Below w.heap.size w W ∧ w.heap.size ≤ W.heap.size)) (by kernel_rfl) (⟨a0, b0, a1, b1, HBd⟩) (fun hS => ?_)
      refine rgT 0 (some 17) ?_
      refine rgT 1 (some 18) ?_
      refine rgT 2 (some 19) ?_
      refine rgT 3 (some 20) ?_
      refine rgT 4 (some 21) ?_
      refine rgT 5 (some 22) ?_
      refine rgT 6 (some 23) ?_
      refine rgT 7 (some 24) ?_
      refine rgT 8 (some 25) ?_
      refine rgT 9 (some 26) ?_
      refine rgT 10 (some 27) ?_
      refine rgT 11 (some 28) ?_
      refine rgT 12 (some 29) ?_
      refine rgT 13 (some 30) ?_
      refine rgT 14 (some 31) ?_
      refine rgT 15 (some 32) ?_
      refine rgT 16 (some 33) ?_
      refine rgT 17 (some 34) ?_
      refine rgT 18 (some 35) ?_
      refine rgT 19 (some 36) ?_
      refine rgT 20 (some 37) ?_
      refine rgT 21 (some 38) ?_
      refine rgC 22 (fun K hK => ?_)
      go_simp
      refine (sameS8_s vo uo vn un vc uc vs us _ HVd.out HUd.out).mono ?_
      rintro e w5 ⟨rfl, hb⟩
      rw [HZ.out]
      go_wp2_with fail
      refine hK.out _ _ ?_ (fun hHeld => ?_)
      ·exact keep4b (by assumption) hb
      clear hK K
      try simp only [Act.put, lsA, lsZ, lsS]
      refine rgT 23 (some 40) ?_
      refine rgT 24 (some 41) ?_
      refine wpAnyH_done (by kernel_rfl) ?_ _
      have HB6 := Lib.hid (HBd.out.1.trans (hb.mono HBd.out.2))
      go_wp2_with fail
      go_ret
      exact ⟨by rw [HE.out]; rfl, HB6.out⟩
    ·have q1 : (p.toList == r.toList) = false := by rw [str_eq]; exact decide_eq_false hpr
     have q2 : (p.toList != r.toList) = true := by unfold bne; rw [q1]; rfl
     have HE := Lib.hid (show decide (l = k) = false from decide_eq_false fun e => hpr (by have h5 := HX.out; rw [e, HY.out] at h5; exact (congrArg Prod.fst h5).symm))
     clear hpr
     go_wp2_with fail
     refine wp_region_held_drew (S := fun W => W.cell? ⟨b, off + q * 2, none⟩ = some (.string p) ∧ W.cell? ⟨c, off2 + q * 2, none⟩ = some (.string r) ∧ Hid (Below w.heap.size w W ∧ w.heap.size ≤ W.heap.size)) (by kernel_rfl) (⟨a0, b0, HBd⟩) (fun hS => ?_)
     refine rgT 0 (some 17) ?_
     refine rgT 1 (some 18) ?_
     refine rgT 2 (some 19) ?_
     refine rgT 3 (some 20) ?_
     refine rgT 4 (some 21) ?_
     refine rgT 5 (some 22) ?_
     refine rgT 6 (some 23) ?_
     refine rgT 7 (some 24) ?_
     refine rgT 8 (some 25) ?_
     refine rgT 9 (some 26) ?_
     refine rgT 10 (some 27) ?_
     refine rgT 11 (some 28) ?_
     refine rgS 12 (some 29) ?_
     refine rgS 13 (some 30) ?_
     refine rgS 14 (some 31) ?_
     refine rgS 15 (some 32) ?_
     refine rgS 16 (some 33) ?_
     refine rgS 17 (some 34) ?_
     refine rgS 18 (some 35) ?_
     refine rgS 19 (some 36) ?_
     refine rgS 20 (some 37) ?_
     refine rgS 21 (some 38) ?_
     refine rgS 22 (some 39) ?_
     refine rgS 23 (some 40) ?_
     refine rgT 24 (some 41) ?_
     refine wpAnyH_done (by kernel_rfl) ?_ _
     go_wp2_with fail
     go_ret
     exact ⟨by rw [HE.out]; rfl, HBd.out.1⟩
   ·have HE := Lib.hid (show decide (l = k) = true from decide_eq_true (ats_ext HNE.out fun j hj => HA.out j (by omega)))
    go_wp2_with fail
    go_ret
    exact ⟨by rw [HE.out]; rfl, HB.out⟩
 ·have HE := Lib.hid (show decide (l = k) = false from decide_eq_false fun e => hne (by rw [e]))
  have hn1 : ((l.length : Int) != (k.length : Int)) = true := by simp; omega
  go_enter Tryz.func24, Tryz.ntmps24
  go_wp2
  go_ret
  exact ⟨by rw [HE.out]; rfl, Below.refl _ _⟩
set_option maxHeartbeats 4000000 in
theorem same8_s (en fn : ByteArray) (ao bo : Option Addr) (n m cap dap : Nat) (l k : List At) (w : World) (h : AttrsAt w ao n cap l) (h' : AttrsAt w bo m dap k) :
  Calls Tryz.prog 7 #[.agg #[.string en, .slice ao n cap], .agg #[.string fn, .slice bo m dap]] w fun e w' => e = .returned (.bool (decide (en = fn ∧ l = k))) ∧ Below w.heap.size w w' := by
 have b0 := below_al w (.cells #[.string en, .slice ao n cap] 28)
 have b1 := below_al (w.alloc (.cells #[.string en, .slice ao n cap] 28)) (.cells #[.string fn, .slice bo m dap] 28)
 have HB := Lib.hid (b0.trans (b1.mono b0.size))
 have HS := Lib.hid (sameA8_s ao bo n m cap dap l k _ (h.below HB.out) (h'.below HB.out))
 clear b0 b1 h h'
 obtain ⟨z, hz⟩ : ∃ z, decide (en = fn) = z := ⟨_, rfl⟩
 have q1 : (en.toList == fn.toList) = z := by rw [str_eq]; exact hz
 obtain ⟨y, hy⟩ : ∃ y, decide (l = k) = y := ⟨_, rfl⟩
 rw [hy] at HS
 have HD := Lib.hid (show decide (en = fn ∧ l = k) = (z && y) by rw [← hz, ← hy]; exact Bool.decide_and _ _)
 clear hz hy
 go_enter Tryz.func7, Tryz.ntmps7
 cases z
 ·go_wp2_with fail
  go_ret
  exact ⟨by rw [HD.out]; rfl, HB.out⟩
 ·go_wp2_with fail
  refine HS.out.mono ?_
  rintro e w1 ⟨rfl, hb⟩
  go_wp2_with fail
  go_ret
  exact ⟨by rw [HD.out]; rfl, HB.out.trans (hb.mono HB.out.size)⟩
end Go.Proofs.YtonfkhkalodldabGreatDoor
end
