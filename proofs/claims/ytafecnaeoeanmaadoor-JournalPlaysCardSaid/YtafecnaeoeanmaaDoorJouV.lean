/-
  Contracts of the specification's Records, Open, New, Crash. Conditions: the journal lies in memory as JouM says.
-/
import Derived.Test.YtafecnaeoeanmaaDoorJouR
import Derived.Lib.MinMax
set_option maxRecDepth 100000
set_option linter.unusedVariables false
set_option linter.unusedSimpArgs false
set_option linter.unnecessarySimpa false
namespace Go.Proofs.YtafecnaeoeanmaaDoor
open Go.RowKit Go.PlainAid

set_option maxHeartbeats 2000000 in
theorem rrecords_s (B b d : Nat) (l : List ByteArray) (v : Value) (w : World) (h : RA w B b l d v) :
    Calls Tryd.prog 19 #[.pointer (some ⟨b, 0, none⟩)] w fun e w' => ∃ v', e = .returned v' ∧ w'.ownsRow w.heap.size 9 1 v' l.length (scells l) ∧ Below w.heap.size w w' := by
  obtain ⟨c0, c1, c2, f1, f2⟩ := h.flat
  have HM := Lib.hid (rmade_j h)
  obtain ⟨ao, cap, hv, hs⟩ := strs_own h.row rfl
  subst hv
  have HE := Lib.hid (own_empty w (Nat.le_refl w.heap.size))
  have HA := Lib.hid (box_below w (.cells #[] 9))
  have HR := Lib.hid (own_below h.row HA.out)
  have c3 : (w.alloc (.cells #[] 9)).cell? ⟨b, 1, none⟩ = some (.slice ao l.length cap) := (h.step HA.out).flat.2.1
  have HN := Lib.hid (show 0 + l.length ≤ 1000000000 by have := h.cnt; omega)
  clear h hs
  go_enter Tryd.func19, Tryd.ntmps19
  go_wp2_with fail
  refine HM.out.mono ?_
  rintro e w' ⟨rfl, rfl⟩
  go_wp2_with (at_builtin; refine app_j _ HE.out (.tmp 6) (.tmp 10) HR.out ?_ ?_ ?_ ?_ ?_ ?_ ?_; exact rfl; exact rfl; exact rfl; exact rfl; exact HN.out; exact HA.out.size; intro v1 w1 hown hg hat; rw [Nat.zero_add, List.nil_append] at hown; obtain ⟨vo, vc, hv1⟩ := row_slice hown; subst hv1; have H1 := Lib.hid (app_fresh HA.out hg.out hat.out ⟨_, rfl, Nat.le_refl _⟩); have HOw1 := Lib.hid hown; clear hown hg hat)
  go_ret
  exact ⟨_, rfl, HOw1.out, H1.out.1⟩
theorem rdecode_k (s : ByteArray) (ds : List ByteArray) (n : Nat) (w : World) (hs : s.size ≤ 1000000000) (ho : WJ w) (h : decS s = ds) (hn : szS ds = n) :
    Calls Tryd.prog 11 #[.string s] w fun e w' => ∃ v, e = .returned (.tuple #[v, .int .i64 n]) ∧ w'.ownsRow w.heap.size 9 1 v ds.length (scells ds) ∧ Below w.heap.size w w' := by
  subst h hn; exact rdecode_s s w hs ho
theorem rbytes_k (ao : Option Addr) (n cap : Nat) (l : List ByteArray) (q : ByteArray) (w : World) (h : StrsAt w ao n cap l) (hz : ∀ r ∈ l, r.size ≤ 4096) (hn : n ≤ 4096) (hq : encsS l = q) :
    Calls Tryd.prog 39 #[.slice ao n cap] w fun e w' => e = .returned (.string q) ∧ Below w.heap.size w w' := by subst hq; exact rbytes_s ao n cap l w h hz hn
set_option maxHeartbeats 4000000 in
theorem ropen_s (s : ByteArray) (w : World) (hs : s.size ≤ 1000000000) (ho : WJ w) :
    Calls Tryd.prog 17 #[.string s] w fun e w' => ∃ b v, e = .returned (.pointer (some ⟨b, 0, none⟩)) ∧ RA w' w.heap.size b (openL s) (openL s).length v ∧ Below w.heap.size w w' := by
  have HO := Lib.hid ho
  clear ho
  obtain ⟨ks, hks⟩ : ∃ ks, decS s = ks := ⟨_, rfl⟩
  obtain ⟨kn, hkn⟩ : ∃ kn, szS ks = kn := ⟨_, rfl⟩
  have HK := Lib.hid (And.intro hks hkn)
  have HE := Lib.hid (show openL s = ks.take 4096 by unfold openL; rw [hks])
  clear hks hkn
  go_enter Tryd.func17, Tryd.ntmps17
  go_wp2_with fail
  refine (rdecode_k s ks kn _ hs HO.out HK.out.1 HK.out.2).mono ?_
  rintro e w1 ⟨u, rfl, hu, hb⟩
  rcases hu.2 with ⟨rfl, h0⟩ | ⟨g, cap, cur, rfl, _, hg, hc, hm, _⟩
  · have hk0 : ks = [] := List.eq_nil_of_length_eq_zero h0
    subst hk0
    have HR := Lib.hid (show w1.ownsRow w.heap.size 9 1 (.slice none 0 0) 0 (scells (openL s)) by rw [HE.out]; exact hu)
    have HB := Lib.hid hb
    clear hu hb h0
    go_wp2_with fail
    go_ret
    have P := open_obj (me := .bool true) (t := 62) (m := 0) HB.out (by rw [HE.out]; rfl) rfl HR.out
    exact ⟨_, _, rfl, P.1, P.2⟩
  · obtain ⟨m, hmm⟩ : ∃ m, min ks.length 4096 = m := ⟨_, rfl⟩
    have m1 : min (ks.length : Int) 4096 = (m : Int) := by omega
    have m2 : m ≤ ks.length := by omega
    have m3 : m ≤ cap := by omega
    have hmx : cap ≤ 9223372036854775807 := by unfold maxLen at hm; omega
    have HR := Lib.hid (show w1.ownsRow w.heap.size 9 1 (.slice (some ⟨g, 0, none⟩) m cap) m (scells (openL s)) by
      rw [HE.out, show ks.take 4096 = ks.take m by rw [← hmm, List.take_eq_take_iff]; omega]
      exact own_cut hu m m2)
    have HL := Lib.hid (show (openL s).length = m by rw [HE.out, List.length_take]; omega)
    have HB := Lib.hid hb
    clear hu hb hg hmm
    go_wp2_with fail
    go_ret
    have P := open_obj (me := .bool true) (t := 62) (m := m) HB.out HL.out rfl HR.out
    exact ⟨_, _, rfl, P.1, P.2⟩
theorem scells_two (a b : List ByteArray) : scells (a ++ b) = scells a ++ scells b := by simp [scells]
theorem two_small {l ks : List ByteArray} {d : Nat} (h : ∀ r ∈ l, r.size ≤ 4096) (hz : ∀ r ∈ ks, r.size ≤ 4096) : ∀ r ∈ l.take d ++ ks, r.size ≤ 4096 := fun r hr => by
  rcases List.mem_append.1 hr with hr | hr
  · exact h r (List.mem_of_mem_take hr)
  · exact hz r hr
set_option maxHeartbeats 8000000 in
theorem rcrash_s (B b d : Nat) (l : List ByteArray) (v : Value) (k : Int) (w : World) (h : RA w B b l d v) (ho : WJ w) :
    Calls Tryd.prog 42 #[.pointer (some ⟨b, 0, none⟩), .int .i64 k] w fun e w' => e = .returned (.tuple #[]) ∧ ∃ v', RA w' B b (crashL l d k) (crashL l d k).length v' ∧ Mv b v v' w w' := by
  have H := Lib.hid h
  have HM := Lib.hid (rmade_j h)
  have HO := Lib.hid ho
  have hdl := h.dl
  have hcn := h.cnt
  have HZ := Lib.hid (fun r (hr : r ∈ l.drop d) => h.sm r (List.mem_of_mem_drop hr))
  obtain ⟨ao, cap, hv, hs⟩ := strs_own h.row rfl
  subst hv
  have hcap : l.length ≤ cap := hs.2.1
  have hmx : cap ≤ 9223372036854775807 := by have := hs.2.2.1; unfold maxLen at this; omega
  have hdc : d ≤ cap := Nat.le_trans hdl hcap
  have HSt := Lib.hid (show ∀ V, Below w.heap.size w V → V.cell? ⟨b, 1, none⟩ = some (.slice ao l.length cap) ∧ V.cell? ⟨b, 2, none⟩ = some (.int .i64 d) ∧ Hid (Below w.heap.size w V) from fun V hb => ⟨(h.step hb).flat.2.1, (h.step hb).flat.2.2.1, Lib.hid hb⟩)
  obtain ⟨q, hq⟩ : ∃ q, encsS (l.drop d) = q := ⟨_, rfl⟩
  have hq1 : q.size ≤ 40000000 := by rw [← hq]; exact szS_many HZ.out (by rw [List.length_drop]; omega)
  obtain ⟨kp, hkp⟩ : ∃ kp, kpN k q.size = kp := ⟨_, rfl⟩
  have hk1 : max 0 (min k (q.size : Int)) = (kp : Int) := by rw [← hkp, ← kp_int]; omega
  have hk2 : kp ≤ q.size := by rw [← hkp]; exact kp_le _ _
  obtain ⟨x, hx⟩ : ∃ x, q.extract 0 kp = x := ⟨_, rfl⟩
  have hx1 : x.size ≤ 1000000000 := by rw [← hx, ByteArray.size_extract]; omega
  obtain ⟨ks, hks⟩ : ∃ ks, decS x = ks := ⟨_, rfl⟩
  obtain ⟨kn, hkn⟩ : ∃ kn, szS ks = kn := ⟨_, rfl⟩
  have HC := Lib.hid (show crashL l d k = l.take d ++ ks by unfold crashL; rw [hq, hkp, hx, hks])
  have HKs := Lib.hid (And.intro hks hkn)
  have HQ := Lib.hid hq
  have HKl := Lib.hid (show ks.length ≤ l.length - d by
    obtain ⟨m, m1, m2⟩ := crash_dec (l := l) d k h.sm
    rw [hq, hkp, hx, hks] at m2
    rw [m2, List.length_take, List.length_drop]; omega)
  have HKz := Lib.hid (show ∀ r ∈ ks, r.size ≤ 4096 from fun r hr => by rw [← hks] at hr; exact decS_small hr)
  clear hq hkp hks hkn
  rcases h.row.2 with ⟨e1, e2⟩ | ⟨g, cap', cur, e1, _⟩
  · have hl0 : l = [] := List.eq_nil_of_length_eq_zero e2
    subst hl0
    injection e1 with e1 _ e3
    subst e1 e3
    have hd0 : d = 0 := by simpa using hdl
    subst hd0
    have HS := Lib.hid (strs_no w none 0 (([] : List ByteArray).drop 0) 0 rfl rfl (by decide))
    clear h hs
    go_enter Tryd.func42, Tryd.ntmps42
    go_wp2_with fail
    refine HM.out.mono ?_
    rintro e w' ⟨rfl, rfl⟩
    go_wp2_with fail
    have HB := Lib.hid (Below.refl w.heap.size w).drew
    have S0 := HSt.out _ HB.out
    refine wp_region_held_drew (S := fun V => V.cell? ⟨b, 1, none⟩ = some (.slice none 0 0) ∧ V.cell? ⟨b, 2, none⟩ = some (.int .i64 0) ∧ Hid (Below w.heap.size w V)) (by kernel_rfl) (S0) (fun hS => ?_)
    refine wpAnyH_take (i := 0) (oi := { dst := some 10, op := _, type := _, pos := _, after := _, guard := _ }) (v := ?_) rfl (by kernel_rfl) (by kernel_rfl) (by kernel_rfl) (fun _ _ _ h => h) (Or.inl ⟨by rfl, ?_⟩) (by assumption) ?_
    rotate_left
    · intro w hSw
      try dsimp only at hSw
      go_simp
      try with_reducible rfl
    try simp only [Act.put, List.setIfInBounds_toArray, List.set_cons_zero, List.set_cons_succ]
    refine wpAnyH_take (i := 1) (oi := { dst := some 11, op := _, type := _, pos := _, after := _, guard := _ }) (v := ?_) rfl (by kernel_rfl) (by kernel_rfl) (by kernel_rfl) (fun _ _ _ h => h) (Or.inl ⟨by rfl, ?_⟩) (by assumption) ?_
    rotate_left
    · intro w hSw
      try dsimp only at hSw
      go_simp
      try with_reducible rfl
    try simp only [Act.put, List.setIfInBounds_toArray, List.set_cons_zero, List.set_cons_succ]
    refine wpAnyH_take (i := 2) (oi := { dst := some 12, op := _, type := _, pos := _, after := _, guard := _ }) (v := ?_) rfl (by kernel_rfl) (by kernel_rfl) (by kernel_rfl) (fun _ _ _ h => h) (Or.inl ⟨by rfl, ?_⟩) (by assumption) ?_
    rotate_left
    · intro w hSw
      try dsimp only at hSw
      go_simp
      try with_reducible rfl
    try simp only [Act.put, List.setIfInBounds_toArray, List.set_cons_zero, List.set_cons_succ]
    refine wpAnyH_take (i := 3) (oi := { dst := some 13, op := _, type := _, pos := _, after := _, guard := _ }) (v := ?_) rfl (by kernel_rfl) (by kernel_rfl) (by kernel_rfl) (fun _ _ _ h => h) (Or.inl ⟨by rfl, ?_⟩) (by assumption) ?_
    rotate_left
    · intro w hSw
      try dsimp only at hSw
      go_simp
      try with_reducible rfl
    try simp only [Act.put, List.setIfInBounds_toArray, List.set_cons_zero, List.set_cons_succ]
    refine wpAnyH_take (i := 4) (oi := { dst := some 14, op := _, type := _, pos := _, after := _, guard := _ }) (v := ?_) rfl (by kernel_rfl) (by kernel_rfl) (by kernel_rfl) (fun _ _ _ h => h) (Or.inl ⟨by rfl, ?_⟩) (by assumption) ?_
    rotate_left
    · intro w hSw
      try dsimp only at hSw
      go_simp
      try with_reducible rfl
    try simp only [Act.put, List.setIfInBounds_toArray, List.set_cons_zero, List.set_cons_succ]
    refine wpAnyH_take (i := 5) (oi := { dst := some 15, op := _, type := _, pos := _, after := _, guard := _ }) (v := ?_) rfl (by kernel_rfl) (by kernel_rfl) (by kernel_rfl) (fun _ _ _ h => h) (Or.inl ⟨by rfl, ?_⟩) (by assumption) ?_
    rotate_left
    · intro w hSw
      try dsimp only at hSw
      go_simp
      try with_reducible rfl
    try simp only [Act.put, List.setIfInBounds_toArray, List.set_cons_zero, List.set_cons_succ]
    refine wpAnyH_take (i := 6) (oi := { dst := some 16, op := _, type := _, pos := _, after := _, guard := _ }) (v := ?_) rfl (by kernel_rfl) (by kernel_rfl) (by kernel_rfl) (fun _ _ _ h => h) (Or.inl ⟨by rfl, ?_⟩) (by assumption) ?_
    rotate_left
    · intro w hSw
      try dsimp only at hSw
      go_simp
      try with_reducible rfl
    try simp only [Act.put, List.setIfInBounds_toArray, List.set_cons_zero, List.set_cons_succ]
    refine wpAnyH_take (i := 7) (oi := { dst := some 17, op := _, type := _, pos := _, after := _, guard := _ }) (v := ?_) rfl (by kernel_rfl) (by kernel_rfl) (by kernel_rfl) (fun _ _ _ h => h) (Or.inl ⟨by rfl, ?_⟩) (by assumption) ?_
    rotate_left
    · intro w hSw
      try dsimp only at hSw
      go_simp
      try with_reducible rfl
    try simp only [Act.put, List.setIfInBounds_toArray, List.set_cons_zero, List.set_cons_succ]
    refine wpAnyH_take (i := 8) (oi := { dst := some 18, op := _, type := _, pos := _, after := _, guard := _ }) (v := ?_) rfl (by kernel_rfl) (by kernel_rfl) (by kernel_rfl) (fun _ _ _ h => h) (Or.inl ⟨by rfl, ?_⟩) (by assumption) ?_
    rotate_left
    · intro w hSw
      try dsimp only at hSw
      go_simp
      try with_reducible rfl
    try simp only [Act.put, List.setIfInBounds_toArray, List.set_cons_zero, List.set_cons_succ]
    refine wpAnyH_ready (rs := [9]) (by kernel_rfl) (by simp) ?_
    refine AllReadyH.cons rfl (fun K hK => ?_) AllReadyH.nil
    go_simp
    refine (rbytes_k _ _ _ _ q _ (HS.out.below HB.out) HZ.out (by omega) HQ.out).mono ?_
    rintro e w1 ⟨rfl, hb⟩
    have HB := Lib.hid (HB.out.trans (hb.mono HB.out.size))
    clear hb
    go_wp2_with fail
    refine hK.out _ _ ?_ (fun hHeld => ?_)
    · exact HSt.out _ HB.out
    clear hK K
    try simp only [Act.put, List.setIfInBounds_toArray, List.set_cons_zero, List.set_cons_succ]
    refine wpAnyH_take (i := 10) (oi := { dst := some 4, op := _, type := _, pos := _, after := _, guard := _ }) (v := ?_) rfl (by kernel_rfl) (by kernel_rfl) (by kernel_rfl) (fun _ _ _ h => h) (Or.inl ⟨by rfl, ?_⟩) (by assumption) ?_
    rotate_left
    · intro w hSw
      try dsimp only at hSw
      go_simp
      try with_reducible rfl
    try simp only [Act.put, List.setIfInBounds_toArray, List.set_cons_zero, List.set_cons_succ]
    refine wpAnyH_done (by kernel_rfl) ?_ _
    go_wp2_with fail
    refine (rdecode_k x ks kn _ hx1 (HO.out.below HB.out) HKs.out.1 HKs.out.2).mono ?_
    rintro e w2 ⟨u, rfl, hu, hb⟩
    obtain ⟨uo, uc, hu'⟩ := row_slice hu
    subst hu'
    have HB := Lib.hid (HB.out.trans (hb.mono HB.out.size)).drew
    have HU2 := Lib.hid (own_below hu (Below.refl w2.heap.size w2).drew)
    have HBz := Lib.hid (show B ≤ w2.drew.heap.size from Nat.le_trans (Nat.le_trans H.out.low (Nat.le_of_lt H.out.blk.big)) HB.out.size)
    have HAl := Lib.hid (show Below w2.drew.heap.size w2.drew (w2.alloc (.cells #[] 9)).drew from box_below w2.drew (.cells #[] 9))
    have HBA := Lib.hid (HB.out.trans (HAl.out.mono HB.out.size))
    have HCut := Lib.hid (own_below (show w.ownsRow B 9 1 (.slice none 0 0) 0 (scells (([] : List ByteArray).take 0)) from H.out.row) HBA.out)
    have HE := Lib.hid (show (w2.alloc (.cells #[] 9)).drew.ownsRow B 9 1 (.slice (some ⟨w2.drew.heap.size, 0, none⟩) 0 0) 0 [] from own_empty w2.drew HBz.out)
    have HBz2 := Lib.hid (Nat.le_trans HBz.out HAl.out.size)
    have HSz := Lib.hid HB.out.size
    have HNm := Lib.hid (show 0 + ks.length ≤ 1000000000 by have := HKl.out; omega)
    have HNd := Lib.hid (show 0 + 0 ≤ 1000000000 by omega)
    clear hb hu
    go_wp2_with fail
    obtain ⟨c1, c2, _⟩ := HSt.out _ HB.out
    obtain ⟨c3', c4', _⟩ := HSt.out _ HBA.out
    have c3 : (w2.alloc (.cells #[] 9)).cell? ⟨b, 1, none⟩ = some (.slice none 0 0) := c3'
    have c4 : (w2.alloc (.cells #[] 9)).cell? ⟨b, 2, none⟩ = some (.int .i64 0) := c4'
    clear c3' c4'
    refine wp_region_held_drew (S := fun _ => True) (by kernel_rfl) (trivial) (fun hS => ?_)
    refine wpAnyH_take (i := 0) (oi := { dst := some 32, op := _, type := _, pos := _, after := _, guard := _ }) (v := ?_) rfl (by kernel_rfl) (by kernel_rfl) (by kernel_rfl) (fun _ _ _ h => h) (Or.inl ⟨by rfl, ?_⟩) (by assumption) ?_
    rotate_left
    · intro w hSw
      try dsimp only at hSw
      go_simp
      try with_reducible rfl
    try simp only [Act.put, List.setIfInBounds_toArray, List.set_cons_zero, List.set_cons_succ]
    refine wpAnyH_take (i := 2) (oi := { dst := some 34, op := _, type := _, pos := _, after := _, guard := _ }) (v := ?_) rfl (by kernel_rfl) (by kernel_rfl) (by kernel_rfl) (fun _ _ _ h => h) (Or.inl ⟨by rfl, ?_⟩) (by assumption) ?_
    rotate_left
    · intro w hSw
      try dsimp only at hSw
      go_simp
      try with_reducible rfl
    try simp only [Act.put, List.setIfInBounds_toArray, List.set_cons_zero, List.set_cons_succ]
    refine wpAnyH_take (i := 3) (oi := { dst := some 35, op := _, type := _, pos := _, after := _, guard := _ }) (v := ?_) rfl (by kernel_rfl) (by kernel_rfl) (by kernel_rfl) (fun _ _ _ h => h) (Or.inl ⟨by rfl, ?_⟩) (by assumption) ?_
    rotate_left
    · intro w hSw
      try dsimp only at hSw
      go_simp
      try with_reducible rfl
    try simp only [Act.put, List.setIfInBounds_toArray, List.set_cons_zero, List.set_cons_succ]
    refine wpAnyH_take (i := 4) (oi := { dst := some 36, op := _, type := _, pos := _, after := _, guard := _ }) (v := ?_) rfl (by kernel_rfl) (by kernel_rfl) (by kernel_rfl) (fun _ _ _ h => h) (Or.inl ⟨by rfl, ?_⟩) (by assumption) ?_
    rotate_left
    · intro w hSw
      try dsimp only at hSw
      go_simp
      try with_reducible rfl
    try simp only [Act.put, List.setIfInBounds_toArray, List.set_cons_zero, List.set_cons_succ]
    refine wpAnyH_take (i := 6) (oi := { dst := some 38, op := _, type := _, pos := _, after := _, guard := _ }) (v := ?_) rfl (by kernel_rfl) (by kernel_rfl) (by kernel_rfl) (fun _ _ _ h => h) (Or.inl ⟨by rfl, ?_⟩) (by assumption) ?_
    rotate_left
    · intro w hSw
      try dsimp only at hSw
      go_simp
      try with_reducible rfl
    try simp only [Act.put, List.setIfInBounds_toArray, List.set_cons_zero, List.set_cons_succ]
    refine wpAnyH_take (i := 7) (oi := { dst := some 39, op := _, type := _, pos := _, after := _, guard := _ }) (v := ?_) rfl (by kernel_rfl) (by kernel_rfl) (by kernel_rfl) (fun _ _ _ h => h) (Or.inl ⟨by rfl, ?_⟩) (by assumption) ?_
    rotate_left
    · intro w hSw
      try dsimp only at hSw
      go_simp
      try with_reducible rfl
    try simp only [Act.put, List.setIfInBounds_toArray, List.set_cons_zero, List.set_cons_succ]
    refine wpAnyH_take (i := 8) (oi := { dst := some 40, op := _, type := _, pos := _, after := _, guard := _ }) (v := ?_) rfl (by kernel_rfl) (by kernel_rfl) (by kernel_rfl) (fun _ _ _ h => h) (Or.inl ⟨by rfl, ?_⟩) (by assumption) ?_
    rotate_left
    · intro w hSw
      try dsimp only at hSw
      go_simp
      try with_reducible rfl
    try simp only [Act.put, List.setIfInBounds_toArray, List.set_cons_zero, List.set_cons_succ]
    refine wpAnyH_take (i := 12) (oi := { dst := some 44, op := _, type := _, pos := _, after := _, guard := _ }) (v := ?_) rfl (by kernel_rfl) (by kernel_rfl) (by kernel_rfl) (fun _ _ _ h => h) (Or.inl ⟨by rfl, ?_⟩) (by assumption) ?_
    rotate_left
    · intro w hSw
      try dsimp only at hSw
      go_simp
      try with_reducible rfl
    try simp only [Act.put, List.setIfInBounds_toArray, List.set_cons_zero, List.set_cons_succ]
    refine wpAnyH_ready (rs := [1, 5, 9]) (by kernel_rfl) (by simp) ?_
    refine AllReadyH.cons rfl (fun K hK => ?_) (AllReadyH.cons rfl (fun K hK => ?_) (AllReadyH.cons rfl (fun K hK => ?_) AllReadyH.nil))
    · go_simp
      refine hK.out _ _ ?_ (fun hHeld => ?_)
      · exact trivial
      clear hK K
      try simp only [Act.put, List.setIfInBounds_toArray, List.set_cons_zero, List.set_cons_succ]
      refine wpAnyH_ready (rs := [5, 9]) (by kernel_rfl) (by simp) ?_
      refine AllReadyH.cons rfl (fun K hK => ?_) (AllReadyH.cons rfl (fun K hK => ?_) AllReadyH.nil)
      · go_simp
        refine hK.out _ _ ?_ (fun hHeld => ?_)
        · exact trivial
        clear hK K
        try simp only [Act.put, List.setIfInBounds_toArray, List.set_cons_zero, List.set_cons_succ]
        refine wpAnyH_ready (rs := [9]) (by kernel_rfl) (by simp) ?_
        refine AllReadyH.cons rfl (fun K hK => ?_) AllReadyH.nil
        go_simp
        refine hK.out _ _ ?_ (fun hHeld => ?_)
        · exact trivial
        clear hK K
        try simp only [Act.put, List.setIfInBounds_toArray, List.set_cons_zero, List.set_cons_succ]
        refine wpAnyH_take (i := 10) (oi := { dst := some 42, op := _, type := _, pos := _, after := _, guard := _ }) (v := ?_) rfl (by kernel_rfl) (by kernel_rfl) (by kernel_rfl) (fun _ _ _ h => h) (Or.inl ⟨by rfl, ?_⟩) (by assumption) ?_
        rotate_left
        · intro w hSw
          try dsimp only at hSw
          go_simp
          try with_reducible rfl
        try simp only [Act.put, List.setIfInBounds_toArray, List.set_cons_zero, List.set_cons_succ]
        refine wpAnyH_ready (rs := [11]) (by kernel_rfl) (by simp) ?_
        refine AllReadyH.cons rfl (fun K hK => ?_) AllReadyH.nil
        refine step_app_j (w2.alloc (.cells #[] 9)).drew HE.out _ _ HCut.out rfl rfl rfl (by simp [Act.eval, Act.put]) HNd.out HBz2.out ?_
        intro v1 w3 q1 q2 q3
        rw [Nat.zero_add, List.nil_append] at q1
        obtain ⟨vo, vc, hv1⟩ := row_slice q1
        subst hv1
        have H1 := Lib.hid (app_fresh HBA.out q2.out q3.out ⟨_, rfl, HSz.out⟩)
        have HOw1 := Lib.hid q1
        have HB3 := Lib.hid (Nat.le_trans HBz2.out q2.out.size)
        have HU3 := Lib.hid (own_below HU2.out (HAl.out.grown q2.out HAl.out.size (fun k hk => Nat.le_of_eq (Option.some.inj hk))))
        clear q1 q2 q3
        refine hK.out _ _ ?_ (fun hHeld => ?_)
        · exact trivial
        clear hK K
        try simp only [Act.put, List.setIfInBounds_toArray, List.set_cons_zero, List.set_cons_succ]
        refine wpAnyH_ready (rs := [13]) (by kernel_rfl) (by simp) ?_
        refine AllReadyH.cons rfl (fun K hK => ?_) AllReadyH.nil
        refine step_app_j w3 HOw1.out _ _ HU3.out rfl rfl rfl (by simp [Act.eval, Act.put]) HNm.out HB3.out ?_
        intro v' w4 q1 q2 q3
        rw [Nat.zero_add] at q1
        obtain ⟨v4, k4, hv'⟩ := row_slice q1
        subst hv'
        have H2 := app_fresh H1.out.1 q2.out q3.out H1.out.2
        have HP := Lib.hid (put_new H.out H2.1 H2.2 (nil_len ks) (by rw [scells_two]; exact q1) (by omega) (by have := HKl.out; omega) (two_small H.out.sm HKz.out))
        obtain ⟨d1, d2, P⟩ := HP.out
        have HP := Lib.hid P
        clear P q1 q2 q3 H2
        refine hK.out _ _ ?_ (fun hHeld => ?_)
        · exact trivial
        clear hK K
        try simp only [Act.put, List.setIfInBounds_toArray, List.set_cons_zero, List.set_cons_succ]
        refine wpAnyH_take (i := 14) (oi := { dst := some 46, op := _, type := _, pos := _, after := _, guard := _ }) (v := ?_) rfl (by kernel_rfl) (by kernel_rfl) (by kernel_rfl) (fun _ _ _ h => h) (Or.inl ⟨by rfl, ?_⟩) (by assumption) ?_
        rotate_left
        · intro w hSw
          try dsimp only at hSw
          go_simp
          try with_reducible rfl
        try simp only [Act.put, List.setIfInBounds_toArray, List.set_cons_zero, List.set_cons_succ]
        refine wpAnyH_take (i := 15) (oi := { dst := some 47, op := _, type := _, pos := _, after := _, guard := _ }) (v := ?_) rfl (by kernel_rfl) (by kernel_rfl) (by kernel_rfl) (fun _ _ _ h => h) (Or.inl ⟨by rfl, ?_⟩) (by assumption) ?_
        rotate_left
        · intro w hSw
          try dsimp only at hSw
          go_simp
          try with_reducible rfl
        try simp only [Act.put, List.setIfInBounds_toArray, List.set_cons_zero, List.set_cons_succ]
        refine wpAnyH_ready (rs := [16]) (by kernel_rfl) (by simp) ?_
        refine AllReadyH.cons rfl (fun K hK => ?_) AllReadyH.nil
        go_simp
        refine hK.out _ _ ?_ (fun hHeld => ?_)
        · exact trivial
        clear hK K
        try simp only [Act.put, List.setIfInBounds_toArray, List.set_cons_zero, List.set_cons_succ]
        refine wpAnyH_done (by kernel_rfl) ?_ _
        obtain ⟨e0, e1, e2, e3, e4⟩ := HP.out.1.flat
        go_wp2_with fail
        go_end0
        exact ⟨rfl, _, by rw [HC.out, nil_len ks]; exact HP.out.1.sync (Nat.le_of_eq (nil_len ks).symm), HP.out.2.trans (Mv.set 2 _)⟩
      · go_simp
        refine hK.out _ _ ?_ (fun hHeld => ?_)
        · exact trivial
        clear hK K
        try simp only [Act.put, List.setIfInBounds_toArray, List.set_cons_zero, List.set_cons_succ]
        refine wpAnyH_ready (rs := [5]) (by kernel_rfl) (by simp) ?_
        refine AllReadyH.cons rfl (fun K hK => ?_) AllReadyH.nil
        go_simp
        refine hK.out _ _ ?_ (fun hHeld => ?_)
        · exact trivial
        clear hK K
        try simp only [Act.put, List.setIfInBounds_toArray, List.set_cons_zero, List.set_cons_succ]
        refine wpAnyH_take (i := 10) (oi := { dst := some 42, op := _, type := _, pos := _, after := _, guard := _ }) (v := ?_) rfl (by kernel_rfl) (by kernel_rfl) (by kernel_rfl) (fun _ _ _ h => h) (Or.inl ⟨by rfl, ?_⟩) (by assumption) ?_
        rotate_left
        · intro w hSw
          try dsimp only at hSw
          go_simp
          try with_reducible rfl
        try simp only [Act.put, List.setIfInBounds_toArray, List.set_cons_zero, List.set_cons_succ]
        refine wpAnyH_ready (rs := [11]) (by kernel_rfl) (by simp) ?_
        refine AllReadyH.cons rfl (fun K hK => ?_) AllReadyH.nil
        refine step_app_j (w2.alloc (.cells #[] 9)).drew HE.out _ _ HCut.out rfl rfl rfl (by simp [Act.eval, Act.put]) HNd.out HBz2.out ?_
        intro v1 w3 q1 q2 q3
        rw [Nat.zero_add, List.nil_append] at q1
        obtain ⟨vo, vc, hv1⟩ := row_slice q1
        subst hv1
        have H1 := Lib.hid (app_fresh HBA.out q2.out q3.out ⟨_, rfl, HSz.out⟩)
        have HOw1 := Lib.hid q1
        have HB3 := Lib.hid (Nat.le_trans HBz2.out q2.out.size)
        have HU3 := Lib.hid (own_below HU2.out (HAl.out.grown q2.out HAl.out.size (fun k hk => Nat.le_of_eq (Option.some.inj hk))))
        clear q1 q2 q3
        refine hK.out _ _ ?_ (fun hHeld => ?_)
        · exact trivial
        clear hK K
        try simp only [Act.put, List.setIfInBounds_toArray, List.set_cons_zero, List.set_cons_succ]
        refine wpAnyH_ready (rs := [13]) (by kernel_rfl) (by simp) ?_
        refine AllReadyH.cons rfl (fun K hK => ?_) AllReadyH.nil
        refine step_app_j w3 HOw1.out _ _ HU3.out rfl rfl rfl (by simp [Act.eval, Act.put]) HNm.out HB3.out ?_
        intro v' w4 q1 q2 q3
        rw [Nat.zero_add] at q1
        obtain ⟨v4, k4, hv'⟩ := row_slice q1
        subst hv'
        have H2 := app_fresh H1.out.1 q2.out q3.out H1.out.2
        have HP := Lib.hid (put_new H.out H2.1 H2.2 (nil_len ks) (by rw [scells_two]; exact q1) (by omega) (by have := HKl.out; omega) (two_small H.out.sm HKz.out))
        obtain ⟨d1, d2, P⟩ := HP.out
        have HP := Lib.hid P
        clear P q1 q2 q3 H2
        refine hK.out _ _ ?_ (fun hHeld => ?_)
        · exact trivial
        clear hK K
        try simp only [Act.put, List.setIfInBounds_toArray, List.set_cons_zero, List.set_cons_succ]
        refine wpAnyH_take (i := 14) (oi := { dst := some 46, op := _, type := _, pos := _, after := _, guard := _ }) (v := ?_) rfl (by kernel_rfl) (by kernel_rfl) (by kernel_rfl) (fun _ _ _ h => h) (Or.inl ⟨by rfl, ?_⟩) (by assumption) ?_
        rotate_left
        · intro w hSw
          try dsimp only at hSw
          go_simp
          try with_reducible rfl
        try simp only [Act.put, List.setIfInBounds_toArray, List.set_cons_zero, List.set_cons_succ]
        refine wpAnyH_take (i := 15) (oi := { dst := some 47, op := _, type := _, pos := _, after := _, guard := _ }) (v := ?_) rfl (by kernel_rfl) (by kernel_rfl) (by kernel_rfl) (fun _ _ _ h => h) (Or.inl ⟨by rfl, ?_⟩) (by assumption) ?_
        rotate_left
        · intro w hSw
          try dsimp only at hSw
          go_simp
          try with_reducible rfl
        try simp only [Act.put, List.setIfInBounds_toArray, List.set_cons_zero, List.set_cons_succ]
        refine wpAnyH_ready (rs := [16]) (by kernel_rfl) (by simp) ?_
        refine AllReadyH.cons rfl (fun K hK => ?_) AllReadyH.nil
        go_simp
        refine hK.out _ _ ?_ (fun hHeld => ?_)
        · exact trivial
        clear hK K
        try simp only [Act.put, List.setIfInBounds_toArray, List.set_cons_zero, List.set_cons_succ]
        refine wpAnyH_done (by kernel_rfl) ?_ _
        obtain ⟨e0, e1, e2, e3, e4⟩ := HP.out.1.flat
        go_wp2_with fail
        go_end0
        exact ⟨rfl, _, by rw [HC.out, nil_len ks]; exact HP.out.1.sync (Nat.le_of_eq (nil_len ks).symm), HP.out.2.trans (Mv.set 2 _)⟩
    · go_simp
      refine hK.out _ _ ?_ (fun hHeld => ?_)
      · exact trivial
      clear hK K
      try simp only [Act.put, List.setIfInBounds_toArray, List.set_cons_zero, List.set_cons_succ]
      refine wpAnyH_ready (rs := [1, 9]) (by kernel_rfl) (by simp) ?_
      refine AllReadyH.cons rfl (fun K hK => ?_) (AllReadyH.cons rfl (fun K hK => ?_) AllReadyH.nil)
      · go_simp
        refine hK.out _ _ ?_ (fun hHeld => ?_)
        · exact trivial
        clear hK K
        try simp only [Act.put, List.setIfInBounds_toArray, List.set_cons_zero, List.set_cons_succ]
        refine wpAnyH_ready (rs := [9]) (by kernel_rfl) (by simp) ?_
        refine AllReadyH.cons rfl (fun K hK => ?_) AllReadyH.nil
        go_simp
        refine hK.out _ _ ?_ (fun hHeld => ?_)
        · exact trivial
        clear hK K
        try simp only [Act.put, List.setIfInBounds_toArray, List.set_cons_zero, List.set_cons_succ]
        refine wpAnyH_take (i := 10) (oi := { dst := some 42, op := _, type := _, pos := _, after := _, guard := _ }) (v := ?_) rfl (by kernel_rfl) (by kernel_rfl) (by kernel_rfl) (fun _ _ _ h => h) (Or.inl ⟨by rfl, ?_⟩) (by assumption) ?_
        rotate_left
        · intro w hSw
          try dsimp only at hSw
          go_simp
          try with_reducible rfl
        try simp only [Act.put, List.setIfInBounds_toArray, List.set_cons_zero, List.set_cons_succ]
        refine wpAnyH_ready (rs := [11]) (by kernel_rfl) (by simp) ?_
        refine AllReadyH.cons rfl (fun K hK => ?_) AllReadyH.nil
        refine step_app_j (w2.alloc (.cells #[] 9)).drew HE.out _ _ HCut.out rfl rfl rfl (by simp [Act.eval, Act.put]) HNd.out HBz2.out ?_
        intro v1 w3 q1 q2 q3
        rw [Nat.zero_add, List.nil_append] at q1
        obtain ⟨vo, vc, hv1⟩ := row_slice q1
        subst hv1
        have H1 := Lib.hid (app_fresh HBA.out q2.out q3.out ⟨_, rfl, HSz.out⟩)
        have HOw1 := Lib.hid q1
        have HB3 := Lib.hid (Nat.le_trans HBz2.out q2.out.size)
        have HU3 := Lib.hid (own_below HU2.out (HAl.out.grown q2.out HAl.out.size (fun k hk => Nat.le_of_eq (Option.some.inj hk))))
        clear q1 q2 q3
        refine hK.out _ _ ?_ (fun hHeld => ?_)
        · exact trivial
        clear hK K
        try simp only [Act.put, List.setIfInBounds_toArray, List.set_cons_zero, List.set_cons_succ]
        refine wpAnyH_ready (rs := [13]) (by kernel_rfl) (by simp) ?_
        refine AllReadyH.cons rfl (fun K hK => ?_) AllReadyH.nil
        refine step_app_j w3 HOw1.out _ _ HU3.out rfl rfl rfl (by simp [Act.eval, Act.put]) HNm.out HB3.out ?_
        intro v' w4 q1 q2 q3
        rw [Nat.zero_add] at q1
        obtain ⟨v4, k4, hv'⟩ := row_slice q1
        subst hv'
        have H2 := app_fresh H1.out.1 q2.out q3.out H1.out.2
        have HP := Lib.hid (put_new H.out H2.1 H2.2 (nil_len ks) (by rw [scells_two]; exact q1) (by omega) (by have := HKl.out; omega) (two_small H.out.sm HKz.out))
        obtain ⟨d1, d2, P⟩ := HP.out
        have HP := Lib.hid P
        clear P q1 q2 q3 H2
        refine hK.out _ _ ?_ (fun hHeld => ?_)
        · exact trivial
        clear hK K
        try simp only [Act.put, List.setIfInBounds_toArray, List.set_cons_zero, List.set_cons_succ]
        refine wpAnyH_take (i := 14) (oi := { dst := some 46, op := _, type := _, pos := _, after := _, guard := _ }) (v := ?_) rfl (by kernel_rfl) (by kernel_rfl) (by kernel_rfl) (fun _ _ _ h => h) (Or.inl ⟨by rfl, ?_⟩) (by assumption) ?_
        rotate_left
        · intro w hSw
          try dsimp only at hSw
          go_simp
          try with_reducible rfl
        try simp only [Act.put, List.setIfInBounds_toArray, List.set_cons_zero, List.set_cons_succ]
        refine wpAnyH_take (i := 15) (oi := { dst := some 47, op := _, type := _, pos := _, after := _, guard := _ }) (v := ?_) rfl (by kernel_rfl) (by kernel_rfl) (by kernel_rfl) (fun _ _ _ h => h) (Or.inl ⟨by rfl, ?_⟩) (by assumption) ?_
        rotate_left
        · intro w hSw
          try dsimp only at hSw
          go_simp
          try with_reducible rfl
        try simp only [Act.put, List.setIfInBounds_toArray, List.set_cons_zero, List.set_cons_succ]
        refine wpAnyH_ready (rs := [16]) (by kernel_rfl) (by simp) ?_
        refine AllReadyH.cons rfl (fun K hK => ?_) AllReadyH.nil
        go_simp
        refine hK.out _ _ ?_ (fun hHeld => ?_)
        · exact trivial
        clear hK K
        try simp only [Act.put, List.setIfInBounds_toArray, List.set_cons_zero, List.set_cons_succ]
        refine wpAnyH_done (by kernel_rfl) ?_ _
        obtain ⟨e0, e1, e2, e3, e4⟩ := HP.out.1.flat
        go_wp2_with fail
        go_end0
        exact ⟨rfl, _, by rw [HC.out, nil_len ks]; exact HP.out.1.sync (Nat.le_of_eq (nil_len ks).symm), HP.out.2.trans (Mv.set 2 _)⟩
      · go_simp
        refine hK.out _ _ ?_ (fun hHeld => ?_)
        · exact trivial
        clear hK K
        try simp only [Act.put, List.setIfInBounds_toArray, List.set_cons_zero, List.set_cons_succ]
        refine wpAnyH_take (i := 10) (oi := { dst := some 42, op := _, type := _, pos := _, after := _, guard := _ }) (v := ?_) rfl (by kernel_rfl) (by kernel_rfl) (by kernel_rfl) (fun _ _ _ h => h) (Or.inl ⟨by rfl, ?_⟩) (by assumption) ?_
        rotate_left
        · intro w hSw
          try dsimp only at hSw
          go_simp
          try with_reducible rfl
        try simp only [Act.put, List.setIfInBounds_toArray, List.set_cons_zero, List.set_cons_succ]
        refine wpAnyH_ready (rs := [1]) (by kernel_rfl) (by simp) ?_
        refine AllReadyH.cons rfl (fun K hK => ?_) AllReadyH.nil
        go_simp
        refine hK.out _ _ ?_ (fun hHeld => ?_)
        · exact trivial
        clear hK K
        try simp only [Act.put, List.setIfInBounds_toArray, List.set_cons_zero, List.set_cons_succ]
        refine wpAnyH_ready (rs := [11]) (by kernel_rfl) (by simp) ?_
        refine AllReadyH.cons rfl (fun K hK => ?_) AllReadyH.nil
        refine step_app_j (w2.alloc (.cells #[] 9)).drew HE.out _ _ HCut.out rfl rfl rfl (by simp [Act.eval, Act.put]) HNd.out HBz2.out ?_
        intro v1 w3 q1 q2 q3
        rw [Nat.zero_add, List.nil_append] at q1
        obtain ⟨vo, vc, hv1⟩ := row_slice q1
        subst hv1
        have H1 := Lib.hid (app_fresh HBA.out q2.out q3.out ⟨_, rfl, HSz.out⟩)
        have HOw1 := Lib.hid q1
        have HB3 := Lib.hid (Nat.le_trans HBz2.out q2.out.size)
        have HU3 := Lib.hid (own_below HU2.out (HAl.out.grown q2.out HAl.out.size (fun k hk => Nat.le_of_eq (Option.some.inj hk))))
        clear q1 q2 q3
        refine hK.out _ _ ?_ (fun hHeld => ?_)
        · exact trivial
        clear hK K
        try simp only [Act.put, List.setIfInBounds_toArray, List.set_cons_zero, List.set_cons_succ]
        refine wpAnyH_ready (rs := [13]) (by kernel_rfl) (by simp) ?_
        refine AllReadyH.cons rfl (fun K hK => ?_) AllReadyH.nil
        refine step_app_j w3 HOw1.out _ _ HU3.out rfl rfl rfl (by simp [Act.eval, Act.put]) HNm.out HB3.out ?_
        intro v' w4 q1 q2 q3
        rw [Nat.zero_add] at q1
        obtain ⟨v4, k4, hv'⟩ := row_slice q1
        subst hv'
        have H2 := app_fresh H1.out.1 q2.out q3.out H1.out.2
        have HP := Lib.hid (put_new H.out H2.1 H2.2 (nil_len ks) (by rw [scells_two]; exact q1) (by omega) (by have := HKl.out; omega) (two_small H.out.sm HKz.out))
        obtain ⟨d1, d2, P⟩ := HP.out
        have HP := Lib.hid P
        clear P q1 q2 q3 H2
        refine hK.out _ _ ?_ (fun hHeld => ?_)
        · exact trivial
        clear hK K
        try simp only [Act.put, List.setIfInBounds_toArray, List.set_cons_zero, List.set_cons_succ]
        refine wpAnyH_take (i := 14) (oi := { dst := some 46, op := _, type := _, pos := _, after := _, guard := _ }) (v := ?_) rfl (by kernel_rfl) (by kernel_rfl) (by kernel_rfl) (fun _ _ _ h => h) (Or.inl ⟨by rfl, ?_⟩) (by assumption) ?_
        rotate_left
        · intro w hSw
          try dsimp only at hSw
          go_simp
          try with_reducible rfl
        try simp only [Act.put, List.setIfInBounds_toArray, List.set_cons_zero, List.set_cons_succ]
        refine wpAnyH_take (i := 15) (oi := { dst := some 47, op := _, type := _, pos := _, after := _, guard := _ }) (v := ?_) rfl (by kernel_rfl) (by kernel_rfl) (by kernel_rfl) (fun _ _ _ h => h) (Or.inl ⟨by rfl, ?_⟩) (by assumption) ?_
        rotate_left
        · intro w hSw
          try dsimp only at hSw
          go_simp
          try with_reducible rfl
        try simp only [Act.put, List.setIfInBounds_toArray, List.set_cons_zero, List.set_cons_succ]
        refine wpAnyH_ready (rs := [16]) (by kernel_rfl) (by simp) ?_
        refine AllReadyH.cons rfl (fun K hK => ?_) AllReadyH.nil
        go_simp
        refine hK.out _ _ ?_ (fun hHeld => ?_)
        · exact trivial
        clear hK K
        try simp only [Act.put, List.setIfInBounds_toArray, List.set_cons_zero, List.set_cons_succ]
        refine wpAnyH_done (by kernel_rfl) ?_ _
        obtain ⟨e0, e1, e2, e3, e4⟩ := HP.out.1.flat
        go_wp2_with fail
        go_end0
        exact ⟨rfl, _, by rw [HC.out, nil_len ks]; exact HP.out.1.sync (Nat.le_of_eq (nil_len ks).symm), HP.out.2.trans (Mv.set 2 _)⟩
    · go_simp
      refine hK.out _ _ ?_ (fun hHeld => ?_)
      · exact trivial
      clear hK K
      try simp only [Act.put, List.setIfInBounds_toArray, List.set_cons_zero, List.set_cons_succ]
      refine wpAnyH_ready (rs := [1, 5]) (by kernel_rfl) (by simp) ?_
      refine AllReadyH.cons rfl (fun K hK => ?_) (AllReadyH.cons rfl (fun K hK => ?_) AllReadyH.nil)
      · go_simp
        refine hK.out _ _ ?_ (fun hHeld => ?_)
        · exact trivial
        clear hK K
        try simp only [Act.put, List.setIfInBounds_toArray, List.set_cons_zero, List.set_cons_succ]
        refine wpAnyH_ready (rs := [5]) (by kernel_rfl) (by simp) ?_
        refine AllReadyH.cons rfl (fun K hK => ?_) AllReadyH.nil
        go_simp
        refine hK.out _ _ ?_ (fun hHeld => ?_)
        · exact trivial
        clear hK K
        try simp only [Act.put, List.setIfInBounds_toArray, List.set_cons_zero, List.set_cons_succ]
        refine wpAnyH_take (i := 10) (oi := { dst := some 42, op := _, type := _, pos := _, after := _, guard := _ }) (v := ?_) rfl (by kernel_rfl) (by kernel_rfl) (by kernel_rfl) (fun _ _ _ h => h) (Or.inl ⟨by rfl, ?_⟩) (by assumption) ?_
        rotate_left
        · intro w hSw
          try dsimp only at hSw
          go_simp
          try with_reducible rfl
        try simp only [Act.put, List.setIfInBounds_toArray, List.set_cons_zero, List.set_cons_succ]
        refine wpAnyH_ready (rs := [11]) (by kernel_rfl) (by simp) ?_
        refine AllReadyH.cons rfl (fun K hK => ?_) AllReadyH.nil
        refine step_app_j (w2.alloc (.cells #[] 9)).drew HE.out _ _ HCut.out rfl rfl rfl (by simp [Act.eval, Act.put]) HNd.out HBz2.out ?_
        intro v1 w3 q1 q2 q3
        rw [Nat.zero_add, List.nil_append] at q1
        obtain ⟨vo, vc, hv1⟩ := row_slice q1
        subst hv1
        have H1 := Lib.hid (app_fresh HBA.out q2.out q3.out ⟨_, rfl, HSz.out⟩)
        have HOw1 := Lib.hid q1
        have HB3 := Lib.hid (Nat.le_trans HBz2.out q2.out.size)
        have HU3 := Lib.hid (own_below HU2.out (HAl.out.grown q2.out HAl.out.size (fun k hk => Nat.le_of_eq (Option.some.inj hk))))
        clear q1 q2 q3
        refine hK.out _ _ ?_ (fun hHeld => ?_)
        · exact trivial
        clear hK K
        try simp only [Act.put, List.setIfInBounds_toArray, List.set_cons_zero, List.set_cons_succ]
        refine wpAnyH_ready (rs := [13]) (by kernel_rfl) (by simp) ?_
        refine AllReadyH.cons rfl (fun K hK => ?_) AllReadyH.nil
        refine step_app_j w3 HOw1.out _ _ HU3.out rfl rfl rfl (by simp [Act.eval, Act.put]) HNm.out HB3.out ?_
        intro v' w4 q1 q2 q3
        rw [Nat.zero_add] at q1
        obtain ⟨v4, k4, hv'⟩ := row_slice q1
        subst hv'
        have H2 := app_fresh H1.out.1 q2.out q3.out H1.out.2
        have HP := Lib.hid (put_new H.out H2.1 H2.2 (nil_len ks) (by rw [scells_two]; exact q1) (by omega) (by have := HKl.out; omega) (two_small H.out.sm HKz.out))
        obtain ⟨d1, d2, P⟩ := HP.out
        have HP := Lib.hid P
        clear P q1 q2 q3 H2
        refine hK.out _ _ ?_ (fun hHeld => ?_)
        · exact trivial
        clear hK K
        try simp only [Act.put, List.setIfInBounds_toArray, List.set_cons_zero, List.set_cons_succ]
        refine wpAnyH_take (i := 14) (oi := { dst := some 46, op := _, type := _, pos := _, after := _, guard := _ }) (v := ?_) rfl (by kernel_rfl) (by kernel_rfl) (by kernel_rfl) (fun _ _ _ h => h) (Or.inl ⟨by rfl, ?_⟩) (by assumption) ?_
        rotate_left
        · intro w hSw
          try dsimp only at hSw
          go_simp
          try with_reducible rfl
        try simp only [Act.put, List.setIfInBounds_toArray, List.set_cons_zero, List.set_cons_succ]
        refine wpAnyH_take (i := 15) (oi := { dst := some 47, op := _, type := _, pos := _, after := _, guard := _ }) (v := ?_) rfl (by kernel_rfl) (by kernel_rfl) (by kernel_rfl) (fun _ _ _ h => h) (Or.inl ⟨by rfl, ?_⟩) (by assumption) ?_
        rotate_left
        · intro w hSw
          try dsimp only at hSw
          go_simp
          try with_reducible rfl
        try simp only [Act.put, List.setIfInBounds_toArray, List.set_cons_zero, List.set_cons_succ]
        refine wpAnyH_ready (rs := [16]) (by kernel_rfl) (by simp) ?_
        refine AllReadyH.cons rfl (fun K hK => ?_) AllReadyH.nil
        go_simp
        refine hK.out _ _ ?_ (fun hHeld => ?_)
        · exact trivial
        clear hK K
        try simp only [Act.put, List.setIfInBounds_toArray, List.set_cons_zero, List.set_cons_succ]
        refine wpAnyH_done (by kernel_rfl) ?_ _
        obtain ⟨e0, e1, e2, e3, e4⟩ := HP.out.1.flat
        go_wp2_with fail
        go_end0
        exact ⟨rfl, _, by rw [HC.out, nil_len ks]; exact HP.out.1.sync (Nat.le_of_eq (nil_len ks).symm), HP.out.2.trans (Mv.set 2 _)⟩
      · go_simp
        refine hK.out _ _ ?_ (fun hHeld => ?_)
        · exact trivial
        clear hK K
        try simp only [Act.put, List.setIfInBounds_toArray, List.set_cons_zero, List.set_cons_succ]
        refine wpAnyH_take (i := 10) (oi := { dst := some 42, op := _, type := _, pos := _, after := _, guard := _ }) (v := ?_) rfl (by kernel_rfl) (by kernel_rfl) (by kernel_rfl) (fun _ _ _ h => h) (Or.inl ⟨by rfl, ?_⟩) (by assumption) ?_
        rotate_left
        · intro w hSw
          try dsimp only at hSw
          go_simp
          try with_reducible rfl
        try simp only [Act.put, List.setIfInBounds_toArray, List.set_cons_zero, List.set_cons_succ]
        refine wpAnyH_ready (rs := [1]) (by kernel_rfl) (by simp) ?_
        refine AllReadyH.cons rfl (fun K hK => ?_) AllReadyH.nil
        go_simp
        refine hK.out _ _ ?_ (fun hHeld => ?_)
        · exact trivial
        clear hK K
        try simp only [Act.put, List.setIfInBounds_toArray, List.set_cons_zero, List.set_cons_succ]
        refine wpAnyH_ready (rs := [11]) (by kernel_rfl) (by simp) ?_
        refine AllReadyH.cons rfl (fun K hK => ?_) AllReadyH.nil
        refine step_app_j (w2.alloc (.cells #[] 9)).drew HE.out _ _ HCut.out rfl rfl rfl (by simp [Act.eval, Act.put]) HNd.out HBz2.out ?_
        intro v1 w3 q1 q2 q3
        rw [Nat.zero_add, List.nil_append] at q1
        obtain ⟨vo, vc, hv1⟩ := row_slice q1
        subst hv1
        have H1 := Lib.hid (app_fresh HBA.out q2.out q3.out ⟨_, rfl, HSz.out⟩)
        have HOw1 := Lib.hid q1
        have HB3 := Lib.hid (Nat.le_trans HBz2.out q2.out.size)
        have HU3 := Lib.hid (own_below HU2.out (HAl.out.grown q2.out HAl.out.size (fun k hk => Nat.le_of_eq (Option.some.inj hk))))
        clear q1 q2 q3
        refine hK.out _ _ ?_ (fun hHeld => ?_)
        · exact trivial
        clear hK K
        try simp only [Act.put, List.setIfInBounds_toArray, List.set_cons_zero, List.set_cons_succ]
        refine wpAnyH_ready (rs := [13]) (by kernel_rfl) (by simp) ?_
        refine AllReadyH.cons rfl (fun K hK => ?_) AllReadyH.nil
        refine step_app_j w3 HOw1.out _ _ HU3.out rfl rfl rfl (by simp [Act.eval, Act.put]) HNm.out HB3.out ?_
        intro v' w4 q1 q2 q3
        rw [Nat.zero_add] at q1
        obtain ⟨v4, k4, hv'⟩ := row_slice q1
        subst hv'
        have H2 := app_fresh H1.out.1 q2.out q3.out H1.out.2
        have HP := Lib.hid (put_new H.out H2.1 H2.2 (nil_len ks) (by rw [scells_two]; exact q1) (by omega) (by have := HKl.out; omega) (two_small H.out.sm HKz.out))
        obtain ⟨d1, d2, P⟩ := HP.out
        have HP := Lib.hid P
        clear P q1 q2 q3 H2
        refine hK.out _ _ ?_ (fun hHeld => ?_)
        · exact trivial
        clear hK K
        try simp only [Act.put, List.setIfInBounds_toArray, List.set_cons_zero, List.set_cons_succ]
        refine wpAnyH_take (i := 14) (oi := { dst := some 46, op := _, type := _, pos := _, after := _, guard := _ }) (v := ?_) rfl (by kernel_rfl) (by kernel_rfl) (by kernel_rfl) (fun _ _ _ h => h) (Or.inl ⟨by rfl, ?_⟩) (by assumption) ?_
        rotate_left
        · intro w hSw
          try dsimp only at hSw
          go_simp
          try with_reducible rfl
        try simp only [Act.put, List.setIfInBounds_toArray, List.set_cons_zero, List.set_cons_succ]
        refine wpAnyH_take (i := 15) (oi := { dst := some 47, op := _, type := _, pos := _, after := _, guard := _ }) (v := ?_) rfl (by kernel_rfl) (by kernel_rfl) (by kernel_rfl) (fun _ _ _ h => h) (Or.inl ⟨by rfl, ?_⟩) (by assumption) ?_
        rotate_left
        · intro w hSw
          try dsimp only at hSw
          go_simp
          try with_reducible rfl
        try simp only [Act.put, List.setIfInBounds_toArray, List.set_cons_zero, List.set_cons_succ]
        refine wpAnyH_ready (rs := [16]) (by kernel_rfl) (by simp) ?_
        refine AllReadyH.cons rfl (fun K hK => ?_) AllReadyH.nil
        go_simp
        refine hK.out _ _ ?_ (fun hHeld => ?_)
        · exact trivial
        clear hK K
        try simp only [Act.put, List.setIfInBounds_toArray, List.set_cons_zero, List.set_cons_succ]
        refine wpAnyH_done (by kernel_rfl) ?_ _
        obtain ⟨e0, e1, e2, e3, e4⟩ := HP.out.1.flat
        go_wp2_with fail
        go_end0
        exact ⟨rfl, _, by rw [HC.out, nil_len ks]; exact HP.out.1.sync (Nat.le_of_eq (nil_len ks).symm), HP.out.2.trans (Mv.set 2 _)⟩
  · injection e1 with e1 _ e3
    subst e1 e3
    have HRow := Lib.hid h.row
    by_cases hcd : cap = d
    · subst hcd
      have hln : l.length = cap := by omega
      have HS := Lib.hid (fun (n c : Nat) (hn : n = 0) (hc : c = 0) => strs_no w (some ⟨g, 0, none⟩) c (l.drop cap) n (by rw [List.length_drop]; omega) hn (by rw [hc]; decide))
      clear h hs
      go_enter Tryd.func42, Tryd.ntmps42
      go_wp2_with fail
      refine HM.out.mono ?_
      rintro e w' ⟨rfl, rfl⟩
      go_wp2_with fail
      have HB := Lib.hid (Below.refl w.heap.size w).drew
      have S0 := HSt.out _ HB.out
      refine wp_region_held_drew (S := fun V => V.cell? ⟨b, 1, none⟩ = some (.slice (some ⟨g, 0, none⟩) l.length cap) ∧ V.cell? ⟨b, 2, none⟩ = some (.int .i64 cap) ∧ Hid (Below w.heap.size w V)) (by kernel_rfl) (S0) (fun hS => ?_)
      refine wpAnyH_take (i := 0) (oi := { dst := some 10, op := _, type := _, pos := _, after := _, guard := _ }) (v := ?_) rfl (by kernel_rfl) (by kernel_rfl) (by kernel_rfl) (fun _ _ _ h => h) (Or.inl ⟨by rfl, ?_⟩) (by assumption) ?_
      rotate_left
      · intro w hSw
        try dsimp only at hSw
        go_simp
        try with_reducible rfl
      try simp only [Act.put, List.setIfInBounds_toArray, List.set_cons_zero, List.set_cons_succ]
      refine wpAnyH_take (i := 1) (oi := { dst := some 11, op := _, type := _, pos := _, after := _, guard := _ }) (v := ?_) rfl (by kernel_rfl) (by kernel_rfl) (by kernel_rfl) (fun _ _ _ h => h) (Or.inl ⟨by rfl, ?_⟩) (by assumption) ?_
      rotate_left
      · intro w hSw
        try dsimp only at hSw
        go_simp
        try with_reducible rfl
      try simp only [Act.put, List.setIfInBounds_toArray, List.set_cons_zero, List.set_cons_succ]
      refine wpAnyH_take (i := 2) (oi := { dst := some 12, op := _, type := _, pos := _, after := _, guard := _ }) (v := ?_) rfl (by kernel_rfl) (by kernel_rfl) (by kernel_rfl) (fun _ _ _ h => h) (Or.inl ⟨by rfl, ?_⟩) (by assumption) ?_
      rotate_left
      · intro w hSw
        try dsimp only at hSw
        go_simp
        try with_reducible rfl
      try simp only [Act.put, List.setIfInBounds_toArray, List.set_cons_zero, List.set_cons_succ]
      refine wpAnyH_take (i := 3) (oi := { dst := some 13, op := _, type := _, pos := _, after := _, guard := _ }) (v := ?_) rfl (by kernel_rfl) (by kernel_rfl) (by kernel_rfl) (fun _ _ _ h => h) (Or.inl ⟨by rfl, ?_⟩) (by assumption) ?_
      rotate_left
      · intro w hSw
        try dsimp only at hSw
        go_simp
        try with_reducible rfl
      try simp only [Act.put, List.setIfInBounds_toArray, List.set_cons_zero, List.set_cons_succ]
      refine wpAnyH_take (i := 4) (oi := { dst := some 14, op := _, type := _, pos := _, after := _, guard := _ }) (v := ?_) rfl (by kernel_rfl) (by kernel_rfl) (by kernel_rfl) (fun _ _ _ h => h) (Or.inl ⟨by rfl, ?_⟩) (by assumption) ?_
      rotate_left
      · intro w hSw
        try dsimp only at hSw
        go_simp
        try with_reducible rfl
      try simp only [Act.put, List.setIfInBounds_toArray, List.set_cons_zero, List.set_cons_succ]
      refine wpAnyH_take (i := 5) (oi := { dst := some 15, op := _, type := _, pos := _, after := _, guard := _ }) (v := ?_) rfl (by kernel_rfl) (by kernel_rfl) (by kernel_rfl) (fun _ _ _ h => h) (Or.inl ⟨by rfl, ?_⟩) (by assumption) ?_
      rotate_left
      · intro w hSw
        try dsimp only at hSw
        go_simp
        try with_reducible rfl
      try simp only [Act.put, List.setIfInBounds_toArray, List.set_cons_zero, List.set_cons_succ]
      refine wpAnyH_take (i := 6) (oi := { dst := some 16, op := _, type := _, pos := _, after := _, guard := _ }) (v := ?_) rfl (by kernel_rfl) (by kernel_rfl) (by kernel_rfl) (fun _ _ _ h => h) (Or.inl ⟨by rfl, ?_⟩) (by assumption) ?_
      rotate_left
      · intro w hSw
        try dsimp only at hSw
        go_simp
        try with_reducible rfl
      try simp only [Act.put, List.setIfInBounds_toArray, List.set_cons_zero, List.set_cons_succ]
      refine wpAnyH_take (i := 7) (oi := { dst := some 17, op := _, type := _, pos := _, after := _, guard := _ }) (v := ?_) rfl (by kernel_rfl) (by kernel_rfl) (by kernel_rfl) (fun _ _ _ h => h) (Or.inl ⟨by rfl, ?_⟩) (by assumption) ?_
      rotate_left
      · intro w hSw
        try dsimp only at hSw
        go_simp
        try with_reducible rfl
      try simp only [Act.put, List.setIfInBounds_toArray, List.set_cons_zero, List.set_cons_succ]
      refine wpAnyH_take (i := 8) (oi := { dst := some 18, op := _, type := _, pos := _, after := _, guard := _ }) (v := ?_) rfl (by kernel_rfl) (by kernel_rfl) (by kernel_rfl) (fun _ _ _ h => h) (Or.inl ⟨by rfl, ?_⟩) (by assumption) ?_
      rotate_left
      · intro w hSw
        try dsimp only at hSw
        go_simp
        try with_reducible rfl
      try simp only [Act.put, List.setIfInBounds_toArray, List.set_cons_zero, List.set_cons_succ]
      refine wpAnyH_ready (rs := [9]) (by kernel_rfl) (by simp) ?_
      refine AllReadyH.cons rfl (fun K hK => ?_) AllReadyH.nil
      go_simp
      refine (rbytes_k _ _ _ _ q _ ((HS.out _ _ (by omega) (by omega)).below HB.out) HZ.out (by omega) HQ.out).mono ?_
      rintro e w1 ⟨rfl, hb⟩
      have HB := Lib.hid (HB.out.trans (hb.mono HB.out.size))
      clear hb
      go_wp2_with fail
      refine hK.out _ _ ?_ (fun hHeld => ?_)
      · exact HSt.out _ HB.out
      clear hK K
      try simp only [Act.put, List.setIfInBounds_toArray, List.set_cons_zero, List.set_cons_succ]
      refine wpAnyH_take (i := 10) (oi := { dst := some 4, op := _, type := _, pos := _, after := _, guard := _ }) (v := ?_) rfl (by kernel_rfl) (by kernel_rfl) (by kernel_rfl) (fun _ _ _ h => h) (Or.inl ⟨by rfl, ?_⟩) (by assumption) ?_
      rotate_left
      · intro w hSw
        try dsimp only at hSw
        go_simp
        try with_reducible rfl
      try simp only [Act.put, List.setIfInBounds_toArray, List.set_cons_zero, List.set_cons_succ]
      refine wpAnyH_done (by kernel_rfl) ?_ _
      go_wp2_with fail
      refine (rdecode_k x ks kn _ hx1 (HO.out.below HB.out) HKs.out.1 HKs.out.2).mono ?_
      rintro e w2 ⟨u, rfl, hu, hb⟩
      obtain ⟨uo, uc, hu'⟩ := row_slice hu
      subst hu'
      have HB := Lib.hid (HB.out.trans (hb.mono HB.out.size)).drew
      have HU2 := Lib.hid (own_below hu (Below.refl w2.heap.size w2).drew)
      have HBz := Lib.hid (show B ≤ w2.drew.heap.size from Nat.le_trans (Nat.le_trans H.out.low (Nat.le_of_lt H.out.blk.big)) HB.out.size)
      have HAl := Lib.hid (show Below w2.drew.heap.size w2.drew (w2.alloc (.cells #[] 9)).drew from box_below w2.drew (.cells #[] 9))
      have HBA := Lib.hid (HB.out.trans (HAl.out.mono HB.out.size))
      have HCut := Lib.hid (own_below (own_cut HRow.out cap hdl) HBA.out)
      have HE := Lib.hid (show (w2.alloc (.cells #[] 9)).drew.ownsRow B 9 1 (.slice (some ⟨w2.drew.heap.size, 0, none⟩) 0 0) 0 [] from own_empty w2.drew HBz.out)
      have HBz2 := Lib.hid (Nat.le_trans HBz.out HAl.out.size)
      have HSz := Lib.hid HB.out.size
      have HNm := Lib.hid (show cap + ks.length ≤ 1000000000 by have := HKl.out; omega)
      have HNd := Lib.hid (show 0 + cap ≤ 1000000000 by omega)
      clear hb hu
      go_wp2_with fail
      obtain ⟨c1, c2, _⟩ := HSt.out _ HB.out
      obtain ⟨c3', c4', _⟩ := HSt.out _ HBA.out
      have c3 : (w2.alloc (.cells #[] 9)).cell? ⟨b, 1, none⟩ = some (.slice (some ⟨g, 0, none⟩) l.length cap) := c3'
      have c4 : (w2.alloc (.cells #[] 9)).cell? ⟨b, 2, none⟩ = some (.int .i64 cap) := c4'
      clear c3' c4'
      refine wp_region_held_drew (S := fun _ => True) (by kernel_rfl) (trivial) (fun hS => ?_)
      refine wpAnyH_take (i := 0) (oi := { dst := some 32, op := _, type := _, pos := _, after := _, guard := _ }) (v := ?_) rfl (by kernel_rfl) (by kernel_rfl) (by kernel_rfl) (fun _ _ _ h => h) (Or.inl ⟨by rfl, ?_⟩) (by assumption) ?_
      rotate_left
      · intro w hSw
        try dsimp only at hSw
        go_simp
        try with_reducible rfl
      try simp only [Act.put, List.setIfInBounds_toArray, List.set_cons_zero, List.set_cons_succ]
      refine wpAnyH_take (i := 2) (oi := { dst := some 34, op := _, type := _, pos := _, after := _, guard := _ }) (v := ?_) rfl (by kernel_rfl) (by kernel_rfl) (by kernel_rfl) (fun _ _ _ h => h) (Or.inl ⟨by rfl, ?_⟩) (by assumption) ?_
      rotate_left
      · intro w hSw
        try dsimp only at hSw
        go_simp
        try with_reducible rfl
      try simp only [Act.put, List.setIfInBounds_toArray, List.set_cons_zero, List.set_cons_succ]
      refine wpAnyH_take (i := 3) (oi := { dst := some 35, op := _, type := _, pos := _, after := _, guard := _ }) (v := ?_) rfl (by kernel_rfl) (by kernel_rfl) (by kernel_rfl) (fun _ _ _ h => h) (Or.inl ⟨by rfl, ?_⟩) (by assumption) ?_
      rotate_left
      · intro w hSw
        try dsimp only at hSw
        go_simp
        try with_reducible rfl
      try simp only [Act.put, List.setIfInBounds_toArray, List.set_cons_zero, List.set_cons_succ]
      refine wpAnyH_take (i := 4) (oi := { dst := some 36, op := _, type := _, pos := _, after := _, guard := _ }) (v := ?_) rfl (by kernel_rfl) (by kernel_rfl) (by kernel_rfl) (fun _ _ _ h => h) (Or.inl ⟨by rfl, ?_⟩) (by assumption) ?_
      rotate_left
      · intro w hSw
        try dsimp only at hSw
        go_simp
        try with_reducible rfl
      try simp only [Act.put, List.setIfInBounds_toArray, List.set_cons_zero, List.set_cons_succ]
      refine wpAnyH_take (i := 6) (oi := { dst := some 38, op := _, type := _, pos := _, after := _, guard := _ }) (v := ?_) rfl (by kernel_rfl) (by kernel_rfl) (by kernel_rfl) (fun _ _ _ h => h) (Or.inl ⟨by rfl, ?_⟩) (by assumption) ?_
      rotate_left
      · intro w hSw
        try dsimp only at hSw
        go_simp
        try with_reducible rfl
      try simp only [Act.put, List.setIfInBounds_toArray, List.set_cons_zero, List.set_cons_succ]
      refine wpAnyH_take (i := 7) (oi := { dst := some 39, op := _, type := _, pos := _, after := _, guard := _ }) (v := ?_) rfl (by kernel_rfl) (by kernel_rfl) (by kernel_rfl) (fun _ _ _ h => h) (Or.inl ⟨by rfl, ?_⟩) (by assumption) ?_
      rotate_left
      · intro w hSw
        try dsimp only at hSw
        go_simp
        try with_reducible rfl
      try simp only [Act.put, List.setIfInBounds_toArray, List.set_cons_zero, List.set_cons_succ]
      refine wpAnyH_take (i := 8) (oi := { dst := some 40, op := _, type := _, pos := _, after := _, guard := _ }) (v := ?_) rfl (by kernel_rfl) (by kernel_rfl) (by kernel_rfl) (fun _ _ _ h => h) (Or.inl ⟨by rfl, ?_⟩) (by assumption) ?_
      rotate_left
      · intro w hSw
        try dsimp only at hSw
        go_simp
        try with_reducible rfl
      try simp only [Act.put, List.setIfInBounds_toArray, List.set_cons_zero, List.set_cons_succ]
      refine wpAnyH_take (i := 12) (oi := { dst := some 44, op := _, type := _, pos := _, after := _, guard := _ }) (v := ?_) rfl (by kernel_rfl) (by kernel_rfl) (by kernel_rfl) (fun _ _ _ h => h) (Or.inl ⟨by rfl, ?_⟩) (by assumption) ?_
      rotate_left
      · intro w hSw
        try dsimp only at hSw
        go_simp
        try with_reducible rfl
      try simp only [Act.put, List.setIfInBounds_toArray, List.set_cons_zero, List.set_cons_succ]
      refine wpAnyH_ready (rs := [1, 5, 9]) (by kernel_rfl) (by simp) ?_
      refine AllReadyH.cons rfl (fun K hK => ?_) (AllReadyH.cons rfl (fun K hK => ?_) (AllReadyH.cons rfl (fun K hK => ?_) AllReadyH.nil))
      · go_simp
        refine hK.out _ _ ?_ (fun hHeld => ?_)
        · exact trivial
        clear hK K
        try simp only [Act.put, List.setIfInBounds_toArray, List.set_cons_zero, List.set_cons_succ]
        refine wpAnyH_ready (rs := [5, 9]) (by kernel_rfl) (by simp) ?_
        refine AllReadyH.cons rfl (fun K hK => ?_) (AllReadyH.cons rfl (fun K hK => ?_) AllReadyH.nil)
        · go_simp
          refine hK.out _ _ ?_ (fun hHeld => ?_)
          · exact trivial
          clear hK K
          try simp only [Act.put, List.setIfInBounds_toArray, List.set_cons_zero, List.set_cons_succ]
          refine wpAnyH_ready (rs := [9]) (by kernel_rfl) (by simp) ?_
          refine AllReadyH.cons rfl (fun K hK => ?_) AllReadyH.nil
          go_simp
          refine hK.out _ _ ?_ (fun hHeld => ?_)
          · exact trivial
          clear hK K
          try simp only [Act.put, List.setIfInBounds_toArray, List.set_cons_zero, List.set_cons_succ]
          refine wpAnyH_take (i := 10) (oi := { dst := some 42, op := _, type := _, pos := _, after := _, guard := _ }) (v := ?_) rfl (by kernel_rfl) (by kernel_rfl) (by kernel_rfl) (fun _ _ _ h => h) (Or.inl ⟨by rfl, ?_⟩) (by assumption) ?_
          rotate_left
          · intro w hSw
            try dsimp only at hSw
            go_simp
            try with_reducible rfl
          try simp only [Act.put, List.setIfInBounds_toArray, List.set_cons_zero, List.set_cons_succ]
          refine wpAnyH_ready (rs := [11]) (by kernel_rfl) (by simp) ?_
          refine AllReadyH.cons rfl (fun K hK => ?_) AllReadyH.nil
          refine step_app_j (w2.alloc (.cells #[] 9)).drew HE.out _ _ HCut.out rfl rfl rfl (by simp [Act.eval, Act.put]) HNd.out HBz2.out ?_
          intro v1 w3 q1 q2 q3
          rw [Nat.zero_add, List.nil_append] at q1
          obtain ⟨vo, vc, hv1⟩ := row_slice q1
          subst hv1
          have H1 := Lib.hid (app_fresh HBA.out q2.out q3.out ⟨_, rfl, HSz.out⟩)
          have HOw1 := Lib.hid q1
          have HB3 := Lib.hid (Nat.le_trans HBz2.out q2.out.size)
          have HU3 := Lib.hid (own_below HU2.out (HAl.out.grown q2.out HAl.out.size (fun k hk => Nat.le_of_eq (Option.some.inj hk))))
          clear q1 q2 q3
          refine hK.out _ _ ?_ (fun hHeld => ?_)
          · exact trivial
          clear hK K
          try simp only [Act.put, List.setIfInBounds_toArray, List.set_cons_zero, List.set_cons_succ]
          refine wpAnyH_ready (rs := [13]) (by kernel_rfl) (by simp) ?_
          refine AllReadyH.cons rfl (fun K hK => ?_) AllReadyH.nil
          refine step_app_j w3 HOw1.out _ _ HU3.out rfl rfl rfl (by simp [Act.eval, Act.put]) HNm.out HB3.out ?_
          intro v' w4 q1 q2 q3
          obtain ⟨v4, k4, hv'⟩ := row_slice q1
          subst hv'
          have H2 := app_fresh H1.out.1 q2.out q3.out H1.out.2
          have HP := Lib.hid (put_new H.out H2.1 H2.2 (by rw [List.length_append, List.length_take, Nat.min_eq_left hdl]) (by rw [scells_two]; exact q1) (by omega) (by have := HKl.out; omega) (two_small H.out.sm HKz.out))
          obtain ⟨d1, d2, P⟩ := HP.out
          have HP := Lib.hid P
          clear P q1 q2 q3 H2
          refine hK.out _ _ ?_ (fun hHeld => ?_)
          · exact trivial
          clear hK K
          try simp only [Act.put, List.setIfInBounds_toArray, List.set_cons_zero, List.set_cons_succ]
          refine wpAnyH_take (i := 14) (oi := { dst := some 46, op := _, type := _, pos := _, after := _, guard := _ }) (v := ?_) rfl (by kernel_rfl) (by kernel_rfl) (by kernel_rfl) (fun _ _ _ h => h) (Or.inl ⟨by rfl, ?_⟩) (by assumption) ?_
          rotate_left
          · intro w hSw
            try dsimp only at hSw
            go_simp
            try with_reducible rfl
          try simp only [Act.put, List.setIfInBounds_toArray, List.set_cons_zero, List.set_cons_succ]
          refine wpAnyH_take (i := 15) (oi := { dst := some 47, op := _, type := _, pos := _, after := _, guard := _ }) (v := ?_) rfl (by kernel_rfl) (by kernel_rfl) (by kernel_rfl) (fun _ _ _ h => h) (Or.inl ⟨by rfl, ?_⟩) (by assumption) ?_
          rotate_left
          · intro w hSw
            try dsimp only at hSw
            go_simp
            try with_reducible rfl
          try simp only [Act.put, List.setIfInBounds_toArray, List.set_cons_zero, List.set_cons_succ]
          refine wpAnyH_ready (rs := [16]) (by kernel_rfl) (by simp) ?_
          refine AllReadyH.cons rfl (fun K hK => ?_) AllReadyH.nil
          go_simp
          refine hK.out _ _ ?_ (fun hHeld => ?_)
          · exact trivial
          clear hK K
          try simp only [Act.put, List.setIfInBounds_toArray, List.set_cons_zero, List.set_cons_succ]
          refine wpAnyH_done (by kernel_rfl) ?_ _
          obtain ⟨e0, e1, e2, e3, e4⟩ := HP.out.1.flat
          go_wp2_with fail
          go_end0
          exact ⟨rfl, _, by rw [HC.out, List.length_append, List.length_take, Nat.min_eq_left hdl]; exact HP.out.1.sync (by rw [List.length_append, List.length_take]; omega), HP.out.2.trans (Mv.set 2 _)⟩
        · go_simp
          refine hK.out _ _ ?_ (fun hHeld => ?_)
          · exact trivial
          clear hK K
          try simp only [Act.put, List.setIfInBounds_toArray, List.set_cons_zero, List.set_cons_succ]
          refine wpAnyH_ready (rs := [5]) (by kernel_rfl) (by simp) ?_
          refine AllReadyH.cons rfl (fun K hK => ?_) AllReadyH.nil
          go_simp
          refine hK.out _ _ ?_ (fun hHeld => ?_)
          · exact trivial
          clear hK K
          try simp only [Act.put, List.setIfInBounds_toArray, List.set_cons_zero, List.set_cons_succ]
          refine wpAnyH_take (i := 10) (oi := { dst := some 42, op := _, type := _, pos := _, after := _, guard := _ }) (v := ?_) rfl (by kernel_rfl) (by kernel_rfl) (by kernel_rfl) (fun _ _ _ h => h) (Or.inl ⟨by rfl, ?_⟩) (by assumption) ?_
          rotate_left
          · intro w hSw
            try dsimp only at hSw
            go_simp
            try with_reducible rfl
          try simp only [Act.put, List.setIfInBounds_toArray, List.set_cons_zero, List.set_cons_succ]
          refine wpAnyH_ready (rs := [11]) (by kernel_rfl) (by simp) ?_
          refine AllReadyH.cons rfl (fun K hK => ?_) AllReadyH.nil
          refine step_app_j (w2.alloc (.cells #[] 9)).drew HE.out _ _ HCut.out rfl rfl rfl (by simp [Act.eval, Act.put]) HNd.out HBz2.out ?_
          intro v1 w3 q1 q2 q3
          rw [Nat.zero_add, List.nil_append] at q1
          obtain ⟨vo, vc, hv1⟩ := row_slice q1
          subst hv1
          have H1 := Lib.hid (app_fresh HBA.out q2.out q3.out ⟨_, rfl, HSz.out⟩)
          have HOw1 := Lib.hid q1
          have HB3 := Lib.hid (Nat.le_trans HBz2.out q2.out.size)
          have HU3 := Lib.hid (own_below HU2.out (HAl.out.grown q2.out HAl.out.size (fun k hk => Nat.le_of_eq (Option.some.inj hk))))
          clear q1 q2 q3
          refine hK.out _ _ ?_ (fun hHeld => ?_)
          · exact trivial
          clear hK K
          try simp only [Act.put, List.setIfInBounds_toArray, List.set_cons_zero, List.set_cons_succ]
          refine wpAnyH_ready (rs := [13]) (by kernel_rfl) (by simp) ?_
          refine AllReadyH.cons rfl (fun K hK => ?_) AllReadyH.nil
          refine step_app_j w3 HOw1.out _ _ HU3.out rfl rfl rfl (by simp [Act.eval, Act.put]) HNm.out HB3.out ?_
          intro v' w4 q1 q2 q3
          obtain ⟨v4, k4, hv'⟩ := row_slice q1
          subst hv'
          have H2 := app_fresh H1.out.1 q2.out q3.out H1.out.2
          have HP := Lib.hid (put_new H.out H2.1 H2.2 (by rw [List.length_append, List.length_take, Nat.min_eq_left hdl]) (by rw [scells_two]; exact q1) (by omega) (by have := HKl.out; omega) (two_small H.out.sm HKz.out))
          obtain ⟨d1, d2, P⟩ := HP.out
          have HP := Lib.hid P
          clear P q1 q2 q3 H2
          refine hK.out _ _ ?_ (fun hHeld => ?_)
          · exact trivial
          clear hK K
          try simp only [Act.put, List.setIfInBounds_toArray, List.set_cons_zero, List.set_cons_succ]
          refine wpAnyH_take (i := 14) (oi := { dst := some 46, op := _, type := _, pos := _, after := _, guard := _ }) (v := ?_) rfl (by kernel_rfl) (by kernel_rfl) (by kernel_rfl) (fun _ _ _ h => h) (Or.inl ⟨by rfl, ?_⟩) (by assumption) ?_
          rotate_left
          · intro w hSw
            try dsimp only at hSw
            go_simp
            try with_reducible rfl
          try simp only [Act.put, List.setIfInBounds_toArray, List.set_cons_zero, List.set_cons_succ]
          refine wpAnyH_take (i := 15) (oi := { dst := some 47, op := _, type := _, pos := _, after := _, guard := _ }) (v := ?_) rfl (by kernel_rfl) (by kernel_rfl) (by kernel_rfl) (fun _ _ _ h => h) (Or.inl ⟨by rfl, ?_⟩) (by assumption) ?_
          rotate_left
          · intro w hSw
            try dsimp only at hSw
            go_simp
            try with_reducible rfl
          try simp only [Act.put, List.setIfInBounds_toArray, List.set_cons_zero, List.set_cons_succ]
          refine wpAnyH_ready (rs := [16]) (by kernel_rfl) (by simp) ?_
          refine AllReadyH.cons rfl (fun K hK => ?_) AllReadyH.nil
          go_simp
          refine hK.out _ _ ?_ (fun hHeld => ?_)
          · exact trivial
          clear hK K
          try simp only [Act.put, List.setIfInBounds_toArray, List.set_cons_zero, List.set_cons_succ]
          refine wpAnyH_done (by kernel_rfl) ?_ _
          obtain ⟨e0, e1, e2, e3, e4⟩ := HP.out.1.flat
          go_wp2_with fail
          go_end0
          exact ⟨rfl, _, by rw [HC.out, List.length_append, List.length_take, Nat.min_eq_left hdl]; exact HP.out.1.sync (by rw [List.length_append, List.length_take]; omega), HP.out.2.trans (Mv.set 2 _)⟩
      · go_simp
        refine hK.out _ _ ?_ (fun hHeld => ?_)
        · exact trivial
        clear hK K
        try simp only [Act.put, List.setIfInBounds_toArray, List.set_cons_zero, List.set_cons_succ]
        refine wpAnyH_ready (rs := [1, 9]) (by kernel_rfl) (by simp) ?_
        refine AllReadyH.cons rfl (fun K hK => ?_) (AllReadyH.cons rfl (fun K hK => ?_) AllReadyH.nil)
        · go_simp
          refine hK.out _ _ ?_ (fun hHeld => ?_)
          · exact trivial
          clear hK K
          try simp only [Act.put, List.setIfInBounds_toArray, List.set_cons_zero, List.set_cons_succ]
          refine wpAnyH_ready (rs := [9]) (by kernel_rfl) (by simp) ?_
          refine AllReadyH.cons rfl (fun K hK => ?_) AllReadyH.nil
          go_simp
          refine hK.out _ _ ?_ (fun hHeld => ?_)
          · exact trivial
          clear hK K
          try simp only [Act.put, List.setIfInBounds_toArray, List.set_cons_zero, List.set_cons_succ]
          refine wpAnyH_take (i := 10) (oi := { dst := some 42, op := _, type := _, pos := _, after := _, guard := _ }) (v := ?_) rfl (by kernel_rfl) (by kernel_rfl) (by kernel_rfl) (fun _ _ _ h => h) (Or.inl ⟨by rfl, ?_⟩) (by assumption) ?_
          rotate_left
          · intro w hSw
            try dsimp only at hSw
            go_simp
            try with_reducible rfl
          try simp only [Act.put, List.setIfInBounds_toArray, List.set_cons_zero, List.set_cons_succ]
          refine wpAnyH_ready (rs := [11]) (by kernel_rfl) (by simp) ?_
          refine AllReadyH.cons rfl (fun K hK => ?_) AllReadyH.nil
          refine step_app_j (w2.alloc (.cells #[] 9)).drew HE.out _ _ HCut.out rfl rfl rfl (by simp [Act.eval, Act.put]) HNd.out HBz2.out ?_
          intro v1 w3 q1 q2 q3
          rw [Nat.zero_add, List.nil_append] at q1
          obtain ⟨vo, vc, hv1⟩ := row_slice q1
          subst hv1
          have H1 := Lib.hid (app_fresh HBA.out q2.out q3.out ⟨_, rfl, HSz.out⟩)
          have HOw1 := Lib.hid q1
          have HB3 := Lib.hid (Nat.le_trans HBz2.out q2.out.size)
          have HU3 := Lib.hid (own_below HU2.out (HAl.out.grown q2.out HAl.out.size (fun k hk => Nat.le_of_eq (Option.some.inj hk))))
          clear q1 q2 q3
          refine hK.out _ _ ?_ (fun hHeld => ?_)
          · exact trivial
          clear hK K
          try simp only [Act.put, List.setIfInBounds_toArray, List.set_cons_zero, List.set_cons_succ]
          refine wpAnyH_ready (rs := [13]) (by kernel_rfl) (by simp) ?_
          refine AllReadyH.cons rfl (fun K hK => ?_) AllReadyH.nil
          refine step_app_j w3 HOw1.out _ _ HU3.out rfl rfl rfl (by simp [Act.eval, Act.put]) HNm.out HB3.out ?_
          intro v' w4 q1 q2 q3
          obtain ⟨v4, k4, hv'⟩ := row_slice q1
          subst hv'
          have H2 := app_fresh H1.out.1 q2.out q3.out H1.out.2
          have HP := Lib.hid (put_new H.out H2.1 H2.2 (by rw [List.length_append, List.length_take, Nat.min_eq_left hdl]) (by rw [scells_two]; exact q1) (by omega) (by have := HKl.out; omega) (two_small H.out.sm HKz.out))
          obtain ⟨d1, d2, P⟩ := HP.out
          have HP := Lib.hid P
          clear P q1 q2 q3 H2
          refine hK.out _ _ ?_ (fun hHeld => ?_)
          · exact trivial
          clear hK K
          try simp only [Act.put, List.setIfInBounds_toArray, List.set_cons_zero, List.set_cons_succ]
          refine wpAnyH_take (i := 14) (oi := { dst := some 46, op := _, type := _, pos := _, after := _, guard := _ }) (v := ?_) rfl (by kernel_rfl) (by kernel_rfl) (by kernel_rfl) (fun _ _ _ h => h) (Or.inl ⟨by rfl, ?_⟩) (by assumption) ?_
          rotate_left
          · intro w hSw
            try dsimp only at hSw
            go_simp
            try with_reducible rfl
          try simp only [Act.put, List.setIfInBounds_toArray, List.set_cons_zero, List.set_cons_succ]
          refine wpAnyH_take (i := 15) (oi := { dst := some 47, op := _, type := _, pos := _, after := _, guard := _ }) (v := ?_) rfl (by kernel_rfl) (by kernel_rfl) (by kernel_rfl) (fun _ _ _ h => h) (Or.inl ⟨by rfl, ?_⟩) (by assumption) ?_
          rotate_left
          · intro w hSw
            try dsimp only at hSw
            go_simp
            try with_reducible rfl
          try simp only [Act.put, List.setIfInBounds_toArray, List.set_cons_zero, List.set_cons_succ]
          refine wpAnyH_ready (rs := [16]) (by kernel_rfl) (by simp) ?_
          refine AllReadyH.cons rfl (fun K hK => ?_) AllReadyH.nil
          go_simp
          refine hK.out _ _ ?_ (fun hHeld => ?_)
          · exact trivial
          clear hK K
          try simp only [Act.put, List.setIfInBounds_toArray, List.set_cons_zero, List.set_cons_succ]
          refine wpAnyH_done (by kernel_rfl) ?_ _
          obtain ⟨e0, e1, e2, e3, e4⟩ := HP.out.1.flat
          go_wp2_with fail
          go_end0
          exact ⟨rfl, _, by rw [HC.out, List.length_append, List.length_take, Nat.min_eq_left hdl]; exact HP.out.1.sync (by rw [List.length_append, List.length_take]; omega), HP.out.2.trans (Mv.set 2 _)⟩
        · go_simp
          refine hK.out _ _ ?_ (fun hHeld => ?_)
          · exact trivial
          clear hK K
          try simp only [Act.put, List.setIfInBounds_toArray, List.set_cons_zero, List.set_cons_succ]
          refine wpAnyH_take (i := 10) (oi := { dst := some 42, op := _, type := _, pos := _, after := _, guard := _ }) (v := ?_) rfl (by kernel_rfl) (by kernel_rfl) (by kernel_rfl) (fun _ _ _ h => h) (Or.inl ⟨by rfl, ?_⟩) (by assumption) ?_
          rotate_left
          · intro w hSw
            try dsimp only at hSw
            go_simp
            try with_reducible rfl
          try simp only [Act.put, List.setIfInBounds_toArray, List.set_cons_zero, List.set_cons_succ]
          refine wpAnyH_ready (rs := [1]) (by kernel_rfl) (by simp) ?_
          refine AllReadyH.cons rfl (fun K hK => ?_) AllReadyH.nil
          go_simp
          refine hK.out _ _ ?_ (fun hHeld => ?_)
          · exact trivial
          clear hK K
          try simp only [Act.put, List.setIfInBounds_toArray, List.set_cons_zero, List.set_cons_succ]
          refine wpAnyH_ready (rs := [11]) (by kernel_rfl) (by simp) ?_
          refine AllReadyH.cons rfl (fun K hK => ?_) AllReadyH.nil
          refine step_app_j (w2.alloc (.cells #[] 9)).drew HE.out _ _ HCut.out rfl rfl rfl (by simp [Act.eval, Act.put]) HNd.out HBz2.out ?_
          intro v1 w3 q1 q2 q3
          rw [Nat.zero_add, List.nil_append] at q1
          obtain ⟨vo, vc, hv1⟩ := row_slice q1
          subst hv1
          have H1 := Lib.hid (app_fresh HBA.out q2.out q3.out ⟨_, rfl, HSz.out⟩)
          have HOw1 := Lib.hid q1
          have HB3 := Lib.hid (Nat.le_trans HBz2.out q2.out.size)
          have HU3 := Lib.hid (own_below HU2.out (HAl.out.grown q2.out HAl.out.size (fun k hk => Nat.le_of_eq (Option.some.inj hk))))
          clear q1 q2 q3
          refine hK.out _ _ ?_ (fun hHeld => ?_)
          · exact trivial
          clear hK K
          try simp only [Act.put, List.setIfInBounds_toArray, List.set_cons_zero, List.set_cons_succ]
          refine wpAnyH_ready (rs := [13]) (by kernel_rfl) (by simp) ?_
          refine AllReadyH.cons rfl (fun K hK => ?_) AllReadyH.nil
          refine step_app_j w3 HOw1.out _ _ HU3.out rfl rfl rfl (by simp [Act.eval, Act.put]) HNm.out HB3.out ?_
          intro v' w4 q1 q2 q3
          obtain ⟨v4, k4, hv'⟩ := row_slice q1
          subst hv'
          have H2 := app_fresh H1.out.1 q2.out q3.out H1.out.2
          have HP := Lib.hid (put_new H.out H2.1 H2.2 (by rw [List.length_append, List.length_take, Nat.min_eq_left hdl]) (by rw [scells_two]; exact q1) (by omega) (by have := HKl.out; omega) (two_small H.out.sm HKz.out))
          obtain ⟨d1, d2, P⟩ := HP.out
          have HP := Lib.hid P
          clear P q1 q2 q3 H2
          refine hK.out _ _ ?_ (fun hHeld => ?_)
          · exact trivial
          clear hK K
          try simp only [Act.put, List.setIfInBounds_toArray, List.set_cons_zero, List.set_cons_succ]
          refine wpAnyH_take (i := 14) (oi := { dst := some 46, op := _, type := _, pos := _, after := _, guard := _ }) (v := ?_) rfl (by kernel_rfl) (by kernel_rfl) (by kernel_rfl) (fun _ _ _ h => h) (Or.inl ⟨by rfl, ?_⟩) (by assumption) ?_
          rotate_left
          · intro w hSw
            try dsimp only at hSw
            go_simp
            try with_reducible rfl
          try simp only [Act.put, List.setIfInBounds_toArray, List.set_cons_zero, List.set_cons_succ]
          refine wpAnyH_take (i := 15) (oi := { dst := some 47, op := _, type := _, pos := _, after := _, guard := _ }) (v := ?_) rfl (by kernel_rfl) (by kernel_rfl) (by kernel_rfl) (fun _ _ _ h => h) (Or.inl ⟨by rfl, ?_⟩) (by assumption) ?_
          rotate_left
          · intro w hSw
            try dsimp only at hSw
            go_simp
            try with_reducible rfl
          try simp only [Act.put, List.setIfInBounds_toArray, List.set_cons_zero, List.set_cons_succ]
          refine wpAnyH_ready (rs := [16]) (by kernel_rfl) (by simp) ?_
          refine AllReadyH.cons rfl (fun K hK => ?_) AllReadyH.nil
          go_simp
          refine hK.out _ _ ?_ (fun hHeld => ?_)
          · exact trivial
          clear hK K
          try simp only [Act.put, List.setIfInBounds_toArray, List.set_cons_zero, List.set_cons_succ]
          refine wpAnyH_done (by kernel_rfl) ?_ _
          obtain ⟨e0, e1, e2, e3, e4⟩ := HP.out.1.flat
          go_wp2_with fail
          go_end0
          exact ⟨rfl, _, by rw [HC.out, List.length_append, List.length_take, Nat.min_eq_left hdl]; exact HP.out.1.sync (by rw [List.length_append, List.length_take]; omega), HP.out.2.trans (Mv.set 2 _)⟩
      · go_simp
        refine hK.out _ _ ?_ (fun hHeld => ?_)
        · exact trivial
        clear hK K
        try simp only [Act.put, List.setIfInBounds_toArray, List.set_cons_zero, List.set_cons_succ]
        refine wpAnyH_ready (rs := [1, 5]) (by kernel_rfl) (by simp) ?_
        refine AllReadyH.cons rfl (fun K hK => ?_) (AllReadyH.cons rfl (fun K hK => ?_) AllReadyH.nil)
        · go_simp
          refine hK.out _ _ ?_ (fun hHeld => ?_)
          · exact trivial
          clear hK K
          try simp only [Act.put, List.setIfInBounds_toArray, List.set_cons_zero, List.set_cons_succ]
          refine wpAnyH_ready (rs := [5]) (by kernel_rfl) (by simp) ?_
          refine AllReadyH.cons rfl (fun K hK => ?_) AllReadyH.nil
          go_simp
          refine hK.out _ _ ?_ (fun hHeld => ?_)
          · exact trivial
          clear hK K
          try simp only [Act.put, List.setIfInBounds_toArray, List.set_cons_zero, List.set_cons_succ]
          refine wpAnyH_take (i := 10) (oi := { dst := some 42, op := _, type := _, pos := _, after := _, guard := _ }) (v := ?_) rfl (by kernel_rfl) (by kernel_rfl) (by kernel_rfl) (fun _ _ _ h => h) (Or.inl ⟨by rfl, ?_⟩) (by assumption) ?_
          rotate_left
          · intro w hSw
            try dsimp only at hSw
            go_simp
            try with_reducible rfl
          try simp only [Act.put, List.setIfInBounds_toArray, List.set_cons_zero, List.set_cons_succ]
          refine wpAnyH_ready (rs := [11]) (by kernel_rfl) (by simp) ?_
          refine AllReadyH.cons rfl (fun K hK => ?_) AllReadyH.nil
          refine step_app_j (w2.alloc (.cells #[] 9)).drew HE.out _ _ HCut.out rfl rfl rfl (by simp [Act.eval, Act.put]) HNd.out HBz2.out ?_
          intro v1 w3 q1 q2 q3
          rw [Nat.zero_add, List.nil_append] at q1
          obtain ⟨vo, vc, hv1⟩ := row_slice q1
          subst hv1
          have H1 := Lib.hid (app_fresh HBA.out q2.out q3.out ⟨_, rfl, HSz.out⟩)
          have HOw1 := Lib.hid q1
          have HB3 := Lib.hid (Nat.le_trans HBz2.out q2.out.size)
          have HU3 := Lib.hid (own_below HU2.out (HAl.out.grown q2.out HAl.out.size (fun k hk => Nat.le_of_eq (Option.some.inj hk))))
          clear q1 q2 q3
          refine hK.out _ _ ?_ (fun hHeld => ?_)
          · exact trivial
          clear hK K
          try simp only [Act.put, List.setIfInBounds_toArray, List.set_cons_zero, List.set_cons_succ]
          refine wpAnyH_ready (rs := [13]) (by kernel_rfl) (by simp) ?_
          refine AllReadyH.cons rfl (fun K hK => ?_) AllReadyH.nil
          refine step_app_j w3 HOw1.out _ _ HU3.out rfl rfl rfl (by simp [Act.eval, Act.put]) HNm.out HB3.out ?_
          intro v' w4 q1 q2 q3
          obtain ⟨v4, k4, hv'⟩ := row_slice q1
          subst hv'
          have H2 := app_fresh H1.out.1 q2.out q3.out H1.out.2
          have HP := Lib.hid (put_new H.out H2.1 H2.2 (by rw [List.length_append, List.length_take, Nat.min_eq_left hdl]) (by rw [scells_two]; exact q1) (by omega) (by have := HKl.out; omega) (two_small H.out.sm HKz.out))
          obtain ⟨d1, d2, P⟩ := HP.out
          have HP := Lib.hid P
          clear P q1 q2 q3 H2
          refine hK.out _ _ ?_ (fun hHeld => ?_)
          · exact trivial
          clear hK K
          try simp only [Act.put, List.setIfInBounds_toArray, List.set_cons_zero, List.set_cons_succ]
          refine wpAnyH_take (i := 14) (oi := { dst := some 46, op := _, type := _, pos := _, after := _, guard := _ }) (v := ?_) rfl (by kernel_rfl) (by kernel_rfl) (by kernel_rfl) (fun _ _ _ h => h) (Or.inl ⟨by rfl, ?_⟩) (by assumption) ?_
          rotate_left
          · intro w hSw
            try dsimp only at hSw
            go_simp
            try with_reducible rfl
          try simp only [Act.put, List.setIfInBounds_toArray, List.set_cons_zero, List.set_cons_succ]
          refine wpAnyH_take (i := 15) (oi := { dst := some 47, op := _, type := _, pos := _, after := _, guard := _ }) (v := ?_) rfl (by kernel_rfl) (by kernel_rfl) (by kernel_rfl) (fun _ _ _ h => h) (Or.inl ⟨by rfl, ?_⟩) (by assumption) ?_
          rotate_left
          · intro w hSw
            try dsimp only at hSw
            go_simp
            try with_reducible rfl
          try simp only [Act.put, List.setIfInBounds_toArray, List.set_cons_zero, List.set_cons_succ]
          refine wpAnyH_ready (rs := [16]) (by kernel_rfl) (by simp) ?_
          refine AllReadyH.cons rfl (fun K hK => ?_) AllReadyH.nil
          go_simp
          refine hK.out _ _ ?_ (fun hHeld => ?_)
          · exact trivial
          clear hK K
          try simp only [Act.put, List.setIfInBounds_toArray, List.set_cons_zero, List.set_cons_succ]
          refine wpAnyH_done (by kernel_rfl) ?_ _
          obtain ⟨e0, e1, e2, e3, e4⟩ := HP.out.1.flat
          go_wp2_with fail
          go_end0
          exact ⟨rfl, _, by rw [HC.out, List.length_append, List.length_take, Nat.min_eq_left hdl]; exact HP.out.1.sync (by rw [List.length_append, List.length_take]; omega), HP.out.2.trans (Mv.set 2 _)⟩
        · go_simp
          refine hK.out _ _ ?_ (fun hHeld => ?_)
          · exact trivial
          clear hK K
          try simp only [Act.put, List.setIfInBounds_toArray, List.set_cons_zero, List.set_cons_succ]
          refine wpAnyH_take (i := 10) (oi := { dst := some 42, op := _, type := _, pos := _, after := _, guard := _ }) (v := ?_) rfl (by kernel_rfl) (by kernel_rfl) (by kernel_rfl) (fun _ _ _ h => h) (Or.inl ⟨by rfl, ?_⟩) (by assumption) ?_
          rotate_left
          · intro w hSw
            try dsimp only at hSw
            go_simp
            try with_reducible rfl
          try simp only [Act.put, List.setIfInBounds_toArray, List.set_cons_zero, List.set_cons_succ]
          refine wpAnyH_ready (rs := [1]) (by kernel_rfl) (by simp) ?_
          refine AllReadyH.cons rfl (fun K hK => ?_) AllReadyH.nil
          go_simp
          refine hK.out _ _ ?_ (fun hHeld => ?_)
          · exact trivial
          clear hK K
          try simp only [Act.put, List.setIfInBounds_toArray, List.set_cons_zero, List.set_cons_succ]
          refine wpAnyH_ready (rs := [11]) (by kernel_rfl) (by simp) ?_
          refine AllReadyH.cons rfl (fun K hK => ?_) AllReadyH.nil
          refine step_app_j (w2.alloc (.cells #[] 9)).drew HE.out _ _ HCut.out rfl rfl rfl (by simp [Act.eval, Act.put]) HNd.out HBz2.out ?_
          intro v1 w3 q1 q2 q3
          rw [Nat.zero_add, List.nil_append] at q1
          obtain ⟨vo, vc, hv1⟩ := row_slice q1
          subst hv1
          have H1 := Lib.hid (app_fresh HBA.out q2.out q3.out ⟨_, rfl, HSz.out⟩)
          have HOw1 := Lib.hid q1
          have HB3 := Lib.hid (Nat.le_trans HBz2.out q2.out.size)
          have HU3 := Lib.hid (own_below HU2.out (HAl.out.grown q2.out HAl.out.size (fun k hk => Nat.le_of_eq (Option.some.inj hk))))
          clear q1 q2 q3
          refine hK.out _ _ ?_ (fun hHeld => ?_)
          · exact trivial
          clear hK K
          try simp only [Act.put, List.setIfInBounds_toArray, List.set_cons_zero, List.set_cons_succ]
          refine wpAnyH_ready (rs := [13]) (by kernel_rfl) (by simp) ?_
          refine AllReadyH.cons rfl (fun K hK => ?_) AllReadyH.nil
          refine step_app_j w3 HOw1.out _ _ HU3.out rfl rfl rfl (by simp [Act.eval, Act.put]) HNm.out HB3.out ?_
          intro v' w4 q1 q2 q3
          obtain ⟨v4, k4, hv'⟩ := row_slice q1
          subst hv'
          have H2 := app_fresh H1.out.1 q2.out q3.out H1.out.2
          have HP := Lib.hid (put_new H.out H2.1 H2.2 (by rw [List.length_append, List.length_take, Nat.min_eq_left hdl]) (by rw [scells_two]; exact q1) (by omega) (by have := HKl.out; omega) (two_small H.out.sm HKz.out))
          obtain ⟨d1, d2, P⟩ := HP.out
          have HP := Lib.hid P
          clear P q1 q2 q3 H2
          refine hK.out _ _ ?_ (fun hHeld => ?_)
          · exact trivial
          clear hK K
          try simp only [Act.put, List.setIfInBounds_toArray, List.set_cons_zero, List.set_cons_succ]
          refine wpAnyH_take (i := 14) (oi := { dst := some 46, op := _, type := _, pos := _, after := _, guard := _ }) (v := ?_) rfl (by kernel_rfl) (by kernel_rfl) (by kernel_rfl) (fun _ _ _ h => h) (Or.inl ⟨by rfl, ?_⟩) (by assumption) ?_
          rotate_left
          · intro w hSw
            try dsimp only at hSw
            go_simp
            try with_reducible rfl
          try simp only [Act.put, List.setIfInBounds_toArray, List.set_cons_zero, List.set_cons_succ]
          refine wpAnyH_take (i := 15) (oi := { dst := some 47, op := _, type := _, pos := _, after := _, guard := _ }) (v := ?_) rfl (by kernel_rfl) (by kernel_rfl) (by kernel_rfl) (fun _ _ _ h => h) (Or.inl ⟨by rfl, ?_⟩) (by assumption) ?_
          rotate_left
          · intro w hSw
            try dsimp only at hSw
            go_simp
            try with_reducible rfl
          try simp only [Act.put, List.setIfInBounds_toArray, List.set_cons_zero, List.set_cons_succ]
          refine wpAnyH_ready (rs := [16]) (by kernel_rfl) (by simp) ?_
          refine AllReadyH.cons rfl (fun K hK => ?_) AllReadyH.nil
          go_simp
          refine hK.out _ _ ?_ (fun hHeld => ?_)
          · exact trivial
          clear hK K
          try simp only [Act.put, List.setIfInBounds_toArray, List.set_cons_zero, List.set_cons_succ]
          refine wpAnyH_done (by kernel_rfl) ?_ _
          obtain ⟨e0, e1, e2, e3, e4⟩ := HP.out.1.flat
          go_wp2_with fail
          go_end0
          exact ⟨rfl, _, by rw [HC.out, List.length_append, List.length_take, Nat.min_eq_left hdl]; exact HP.out.1.sync (by rw [List.length_append, List.length_take]; omega), HP.out.2.trans (Mv.set 2 _)⟩
    · have HS := Lib.hid (hs.from d h.dl)
      rw [Nat.zero_add] at HS
      clear h hs
      go_enter Tryd.func42, Tryd.ntmps42
      go_wp2_with fail
      refine HM.out.mono ?_
      rintro e w' ⟨rfl, rfl⟩
      go_wp2_with fail
      have HB := Lib.hid (Below.refl w.heap.size w).drew
      have S0 := HSt.out _ HB.out
      refine wp_region_held_drew (S := fun V => V.cell? ⟨b, 1, none⟩ = some (.slice (some ⟨g, 0, none⟩) l.length cap) ∧ V.cell? ⟨b, 2, none⟩ = some (.int .i64 d) ∧ Hid (Below w.heap.size w V)) (by kernel_rfl) (S0) (fun hS => ?_)
      refine wpAnyH_take (i := 0) (oi := { dst := some 10, op := _, type := _, pos := _, after := _, guard := _ }) (v := ?_) rfl (by kernel_rfl) (by kernel_rfl) (by kernel_rfl) (fun _ _ _ h => h) (Or.inl ⟨by rfl, ?_⟩) (by assumption) ?_
      rotate_left
      · intro w hSw
        try dsimp only at hSw
        go_simp
        try with_reducible rfl
      try simp only [Act.put, List.setIfInBounds_toArray, List.set_cons_zero, List.set_cons_succ]
      refine wpAnyH_take (i := 1) (oi := { dst := some 11, op := _, type := _, pos := _, after := _, guard := _ }) (v := ?_) rfl (by kernel_rfl) (by kernel_rfl) (by kernel_rfl) (fun _ _ _ h => h) (Or.inl ⟨by rfl, ?_⟩) (by assumption) ?_
      rotate_left
      · intro w hSw
        try dsimp only at hSw
        go_simp
        try with_reducible rfl
      try simp only [Act.put, List.setIfInBounds_toArray, List.set_cons_zero, List.set_cons_succ]
      refine wpAnyH_take (i := 2) (oi := { dst := some 12, op := _, type := _, pos := _, after := _, guard := _ }) (v := ?_) rfl (by kernel_rfl) (by kernel_rfl) (by kernel_rfl) (fun _ _ _ h => h) (Or.inl ⟨by rfl, ?_⟩) (by assumption) ?_
      rotate_left
      · intro w hSw
        try dsimp only at hSw
        go_simp
        try with_reducible rfl
      try simp only [Act.put, List.setIfInBounds_toArray, List.set_cons_zero, List.set_cons_succ]
      refine wpAnyH_take (i := 3) (oi := { dst := some 13, op := _, type := _, pos := _, after := _, guard := _ }) (v := ?_) rfl (by kernel_rfl) (by kernel_rfl) (by kernel_rfl) (fun _ _ _ h => h) (Or.inl ⟨by rfl, ?_⟩) (by assumption) ?_
      rotate_left
      · intro w hSw
        try dsimp only at hSw
        go_simp
        try with_reducible rfl
      try simp only [Act.put, List.setIfInBounds_toArray, List.set_cons_zero, List.set_cons_succ]
      refine wpAnyH_take (i := 4) (oi := { dst := some 14, op := _, type := _, pos := _, after := _, guard := _ }) (v := ?_) rfl (by kernel_rfl) (by kernel_rfl) (by kernel_rfl) (fun _ _ _ h => h) (Or.inl ⟨by rfl, ?_⟩) (by assumption) ?_
      rotate_left
      · intro w hSw
        try dsimp only at hSw
        go_simp
        try with_reducible rfl
      try simp only [Act.put, List.setIfInBounds_toArray, List.set_cons_zero, List.set_cons_succ]
      refine wpAnyH_take (i := 5) (oi := { dst := some 15, op := _, type := _, pos := _, after := _, guard := _ }) (v := ?_) rfl (by kernel_rfl) (by kernel_rfl) (by kernel_rfl) (fun _ _ _ h => h) (Or.inl ⟨by rfl, ?_⟩) (by assumption) ?_
      rotate_left
      · intro w hSw
        try dsimp only at hSw
        go_simp
        try with_reducible rfl
      try simp only [Act.put, List.setIfInBounds_toArray, List.set_cons_zero, List.set_cons_succ]
      refine wpAnyH_take (i := 6) (oi := { dst := some 16, op := _, type := _, pos := _, after := _, guard := _ }) (v := ?_) rfl (by kernel_rfl) (by kernel_rfl) (by kernel_rfl) (fun _ _ _ h => h) (Or.inl ⟨by rfl, ?_⟩) (by assumption) ?_
      rotate_left
      · intro w hSw
        try dsimp only at hSw
        go_simp
        try with_reducible rfl
      try simp only [Act.put, List.setIfInBounds_toArray, List.set_cons_zero, List.set_cons_succ]
      refine wpAnyH_take (i := 7) (oi := { dst := some 17, op := _, type := _, pos := _, after := _, guard := _ }) (v := ?_) rfl (by kernel_rfl) (by kernel_rfl) (by kernel_rfl) (fun _ _ _ h => h) (Or.inl ⟨by rfl, ?_⟩) (by assumption) ?_
      rotate_left
      · intro w hSw
        try dsimp only at hSw
        go_simp
        try with_reducible rfl
      try simp only [Act.put, List.setIfInBounds_toArray, List.set_cons_zero, List.set_cons_succ]
      refine wpAnyH_take (i := 8) (oi := { dst := some 18, op := _, type := _, pos := _, after := _, guard := _ }) (v := ?_) rfl (by kernel_rfl) (by kernel_rfl) (by kernel_rfl) (fun _ _ _ h => h) (Or.inl ⟨by rfl, ?_⟩) (by assumption) ?_
      rotate_left
      · intro w hSw
        try dsimp only at hSw
        go_simp
        try with_reducible rfl
      try simp only [Act.put, List.setIfInBounds_toArray, List.set_cons_zero, List.set_cons_succ]
      refine wpAnyH_ready (rs := [9]) (by kernel_rfl) (by simp) ?_
      refine AllReadyH.cons rfl (fun K hK => ?_) AllReadyH.nil
      go_simp
      refine (rbytes_k _ _ _ _ q _ (HS.out.below HB.out) HZ.out (by omega) HQ.out).mono ?_
      rintro e w1 ⟨rfl, hb⟩
      have HB := Lib.hid (HB.out.trans (hb.mono HB.out.size))
      clear hb
      go_wp2_with fail
      refine hK.out _ _ ?_ (fun hHeld => ?_)
      · exact HSt.out _ HB.out
      clear hK K
      try simp only [Act.put, List.setIfInBounds_toArray, List.set_cons_zero, List.set_cons_succ]
      refine wpAnyH_take (i := 10) (oi := { dst := some 4, op := _, type := _, pos := _, after := _, guard := _ }) (v := ?_) rfl (by kernel_rfl) (by kernel_rfl) (by kernel_rfl) (fun _ _ _ h => h) (Or.inl ⟨by rfl, ?_⟩) (by assumption) ?_
      rotate_left
      · intro w hSw
        try dsimp only at hSw
        go_simp
        try with_reducible rfl
      try simp only [Act.put, List.setIfInBounds_toArray, List.set_cons_zero, List.set_cons_succ]
      refine wpAnyH_done (by kernel_rfl) ?_ _
      go_wp2_with fail
      refine (rdecode_k x ks kn _ hx1 (HO.out.below HB.out) HKs.out.1 HKs.out.2).mono ?_
      rintro e w2 ⟨u, rfl, hu, hb⟩
      obtain ⟨uo, uc, hu'⟩ := row_slice hu
      subst hu'
      have HB := Lib.hid (HB.out.trans (hb.mono HB.out.size)).drew
      have HU2 := Lib.hid (own_below hu (Below.refl w2.heap.size w2).drew)
      have HBz := Lib.hid (show B ≤ w2.drew.heap.size from Nat.le_trans (Nat.le_trans H.out.low (Nat.le_of_lt H.out.blk.big)) HB.out.size)
      have HAl := Lib.hid (show Below w2.drew.heap.size w2.drew (w2.alloc (.cells #[] 9)).drew from box_below w2.drew (.cells #[] 9))
      have HBA := Lib.hid (HB.out.trans (HAl.out.mono HB.out.size))
      have HCut := Lib.hid (own_below (own_cut HRow.out d hdl) HBA.out)
      have HE := Lib.hid (show (w2.alloc (.cells #[] 9)).drew.ownsRow B 9 1 (.slice (some ⟨w2.drew.heap.size, 0, none⟩) 0 0) 0 [] from own_empty w2.drew HBz.out)
      have HBz2 := Lib.hid (Nat.le_trans HBz.out HAl.out.size)
      have HSz := Lib.hid HB.out.size
      have HNm := Lib.hid (show d + ks.length ≤ 1000000000 by have := HKl.out; omega)
      have HNd := Lib.hid (show 0 + d ≤ 1000000000 by omega)
      clear hb hu
      go_wp2_with fail
      obtain ⟨c1, c2, _⟩ := HSt.out _ HB.out
      obtain ⟨c3', c4', _⟩ := HSt.out _ HBA.out
      have c3 : (w2.alloc (.cells #[] 9)).cell? ⟨b, 1, none⟩ = some (.slice (some ⟨g, 0, none⟩) l.length cap) := c3'
      have c4 : (w2.alloc (.cells #[] 9)).cell? ⟨b, 2, none⟩ = some (.int .i64 d) := c4'
      clear c3' c4'
      refine wp_region_held_drew (S := fun _ => True) (by kernel_rfl) (trivial) (fun hS => ?_)
      refine wpAnyH_take (i := 0) (oi := { dst := some 32, op := _, type := _, pos := _, after := _, guard := _ }) (v := ?_) rfl (by kernel_rfl) (by kernel_rfl) (by kernel_rfl) (fun _ _ _ h => h) (Or.inl ⟨by rfl, ?_⟩) (by assumption) ?_
      rotate_left
      · intro w hSw
        try dsimp only at hSw
        go_simp
        try with_reducible rfl
      try simp only [Act.put, List.setIfInBounds_toArray, List.set_cons_zero, List.set_cons_succ]
      refine wpAnyH_take (i := 2) (oi := { dst := some 34, op := _, type := _, pos := _, after := _, guard := _ }) (v := ?_) rfl (by kernel_rfl) (by kernel_rfl) (by kernel_rfl) (fun _ _ _ h => h) (Or.inl ⟨by rfl, ?_⟩) (by assumption) ?_
      rotate_left
      · intro w hSw
        try dsimp only at hSw
        go_simp
        try with_reducible rfl
      try simp only [Act.put, List.setIfInBounds_toArray, List.set_cons_zero, List.set_cons_succ]
      refine wpAnyH_take (i := 3) (oi := { dst := some 35, op := _, type := _, pos := _, after := _, guard := _ }) (v := ?_) rfl (by kernel_rfl) (by kernel_rfl) (by kernel_rfl) (fun _ _ _ h => h) (Or.inl ⟨by rfl, ?_⟩) (by assumption) ?_
      rotate_left
      · intro w hSw
        try dsimp only at hSw
        go_simp
        try with_reducible rfl
      try simp only [Act.put, List.setIfInBounds_toArray, List.set_cons_zero, List.set_cons_succ]
      refine wpAnyH_take (i := 4) (oi := { dst := some 36, op := _, type := _, pos := _, after := _, guard := _ }) (v := ?_) rfl (by kernel_rfl) (by kernel_rfl) (by kernel_rfl) (fun _ _ _ h => h) (Or.inl ⟨by rfl, ?_⟩) (by assumption) ?_
      rotate_left
      · intro w hSw
        try dsimp only at hSw
        go_simp
        try with_reducible rfl
      try simp only [Act.put, List.setIfInBounds_toArray, List.set_cons_zero, List.set_cons_succ]
      refine wpAnyH_take (i := 6) (oi := { dst := some 38, op := _, type := _, pos := _, after := _, guard := _ }) (v := ?_) rfl (by kernel_rfl) (by kernel_rfl) (by kernel_rfl) (fun _ _ _ h => h) (Or.inl ⟨by rfl, ?_⟩) (by assumption) ?_
      rotate_left
      · intro w hSw
        try dsimp only at hSw
        go_simp
        try with_reducible rfl
      try simp only [Act.put, List.setIfInBounds_toArray, List.set_cons_zero, List.set_cons_succ]
      refine wpAnyH_take (i := 7) (oi := { dst := some 39, op := _, type := _, pos := _, after := _, guard := _ }) (v := ?_) rfl (by kernel_rfl) (by kernel_rfl) (by kernel_rfl) (fun _ _ _ h => h) (Or.inl ⟨by rfl, ?_⟩) (by assumption) ?_
      rotate_left
      · intro w hSw
        try dsimp only at hSw
        go_simp
        try with_reducible rfl
      try simp only [Act.put, List.setIfInBounds_toArray, List.set_cons_zero, List.set_cons_succ]
      refine wpAnyH_take (i := 8) (oi := { dst := some 40, op := _, type := _, pos := _, after := _, guard := _ }) (v := ?_) rfl (by kernel_rfl) (by kernel_rfl) (by kernel_rfl) (fun _ _ _ h => h) (Or.inl ⟨by rfl, ?_⟩) (by assumption) ?_
      rotate_left
      · intro w hSw
        try dsimp only at hSw
        go_simp
        try with_reducible rfl
      try simp only [Act.put, List.setIfInBounds_toArray, List.set_cons_zero, List.set_cons_succ]
      refine wpAnyH_take (i := 12) (oi := { dst := some 44, op := _, type := _, pos := _, after := _, guard := _ }) (v := ?_) rfl (by kernel_rfl) (by kernel_rfl) (by kernel_rfl) (fun _ _ _ h => h) (Or.inl ⟨by rfl, ?_⟩) (by assumption) ?_
      rotate_left
      · intro w hSw
        try dsimp only at hSw
        go_simp
        try with_reducible rfl
      try simp only [Act.put, List.setIfInBounds_toArray, List.set_cons_zero, List.set_cons_succ]
      refine wpAnyH_ready (rs := [1, 5, 9]) (by kernel_rfl) (by simp) ?_
      refine AllReadyH.cons rfl (fun K hK => ?_) (AllReadyH.cons rfl (fun K hK => ?_) (AllReadyH.cons rfl (fun K hK => ?_) AllReadyH.nil))
      · go_simp
        refine hK.out _ _ ?_ (fun hHeld => ?_)
        · exact trivial
        clear hK K
        try simp only [Act.put, List.setIfInBounds_toArray, List.set_cons_zero, List.set_cons_succ]
        refine wpAnyH_ready (rs := [5, 9]) (by kernel_rfl) (by simp) ?_
        refine AllReadyH.cons rfl (fun K hK => ?_) (AllReadyH.cons rfl (fun K hK => ?_) AllReadyH.nil)
        · go_simp
          refine hK.out _ _ ?_ (fun hHeld => ?_)
          · exact trivial
          clear hK K
          try simp only [Act.put, List.setIfInBounds_toArray, List.set_cons_zero, List.set_cons_succ]
          refine wpAnyH_ready (rs := [9]) (by kernel_rfl) (by simp) ?_
          refine AllReadyH.cons rfl (fun K hK => ?_) AllReadyH.nil
          go_simp
          refine hK.out _ _ ?_ (fun hHeld => ?_)
          · exact trivial
          clear hK K
          try simp only [Act.put, List.setIfInBounds_toArray, List.set_cons_zero, List.set_cons_succ]
          refine wpAnyH_take (i := 10) (oi := { dst := some 42, op := _, type := _, pos := _, after := _, guard := _ }) (v := ?_) rfl (by kernel_rfl) (by kernel_rfl) (by kernel_rfl) (fun _ _ _ h => h) (Or.inl ⟨by rfl, ?_⟩) (by assumption) ?_
          rotate_left
          · intro w hSw
            try dsimp only at hSw
            go_simp
            try with_reducible rfl
          try simp only [Act.put, List.setIfInBounds_toArray, List.set_cons_zero, List.set_cons_succ]
          refine wpAnyH_ready (rs := [11]) (by kernel_rfl) (by simp) ?_
          refine AllReadyH.cons rfl (fun K hK => ?_) AllReadyH.nil
          refine step_app_j (w2.alloc (.cells #[] 9)).drew HE.out _ _ HCut.out rfl rfl rfl (by simp [Act.eval, Act.put]) HNd.out HBz2.out ?_
          intro v1 w3 q1 q2 q3
          rw [Nat.zero_add, List.nil_append] at q1
          obtain ⟨vo, vc, hv1⟩ := row_slice q1
          subst hv1
          have H1 := Lib.hid (app_fresh HBA.out q2.out q3.out ⟨_, rfl, HSz.out⟩)
          have HOw1 := Lib.hid q1
          have HB3 := Lib.hid (Nat.le_trans HBz2.out q2.out.size)
          have HU3 := Lib.hid (own_below HU2.out (HAl.out.grown q2.out HAl.out.size (fun k hk => Nat.le_of_eq (Option.some.inj hk))))
          clear q1 q2 q3
          refine hK.out _ _ ?_ (fun hHeld => ?_)
          · exact trivial
          clear hK K
          try simp only [Act.put, List.setIfInBounds_toArray, List.set_cons_zero, List.set_cons_succ]
          refine wpAnyH_ready (rs := [13]) (by kernel_rfl) (by simp) ?_
          refine AllReadyH.cons rfl (fun K hK => ?_) AllReadyH.nil
          refine step_app_j w3 HOw1.out _ _ HU3.out rfl rfl rfl (by simp [Act.eval, Act.put]) HNm.out HB3.out ?_
          intro v' w4 q1 q2 q3
          obtain ⟨v4, k4, hv'⟩ := row_slice q1
          subst hv'
          have H2 := app_fresh H1.out.1 q2.out q3.out H1.out.2
          have HP := Lib.hid (put_new H.out H2.1 H2.2 (by rw [List.length_append, List.length_take, Nat.min_eq_left hdl]) (by rw [scells_two]; exact q1) (by omega) (by have := HKl.out; omega) (two_small H.out.sm HKz.out))
          obtain ⟨d1, d2, P⟩ := HP.out
          have HP := Lib.hid P
          clear P q1 q2 q3 H2
          refine hK.out _ _ ?_ (fun hHeld => ?_)
          · exact trivial
          clear hK K
          try simp only [Act.put, List.setIfInBounds_toArray, List.set_cons_zero, List.set_cons_succ]
          refine wpAnyH_take (i := 14) (oi := { dst := some 46, op := _, type := _, pos := _, after := _, guard := _ }) (v := ?_) rfl (by kernel_rfl) (by kernel_rfl) (by kernel_rfl) (fun _ _ _ h => h) (Or.inl ⟨by rfl, ?_⟩) (by assumption) ?_
          rotate_left
          · intro w hSw
            try dsimp only at hSw
            go_simp
            try with_reducible rfl
          try simp only [Act.put, List.setIfInBounds_toArray, List.set_cons_zero, List.set_cons_succ]
          refine wpAnyH_take (i := 15) (oi := { dst := some 47, op := _, type := _, pos := _, after := _, guard := _ }) (v := ?_) rfl (by kernel_rfl) (by kernel_rfl) (by kernel_rfl) (fun _ _ _ h => h) (Or.inl ⟨by rfl, ?_⟩) (by assumption) ?_
          rotate_left
          · intro w hSw
            try dsimp only at hSw
            go_simp
            try with_reducible rfl
          try simp only [Act.put, List.setIfInBounds_toArray, List.set_cons_zero, List.set_cons_succ]
          refine wpAnyH_ready (rs := [16]) (by kernel_rfl) (by simp) ?_
          refine AllReadyH.cons rfl (fun K hK => ?_) AllReadyH.nil
          go_simp
          refine hK.out _ _ ?_ (fun hHeld => ?_)
          · exact trivial
          clear hK K
          try simp only [Act.put, List.setIfInBounds_toArray, List.set_cons_zero, List.set_cons_succ]
          refine wpAnyH_done (by kernel_rfl) ?_ _
          obtain ⟨e0, e1, e2, e3, e4⟩ := HP.out.1.flat
          go_wp2_with fail
          go_end0
          exact ⟨rfl, _, by rw [HC.out, List.length_append, List.length_take, Nat.min_eq_left hdl]; exact HP.out.1.sync (by rw [List.length_append, List.length_take]; omega), HP.out.2.trans (Mv.set 2 _)⟩
        · go_simp
          refine hK.out _ _ ?_ (fun hHeld => ?_)
          · exact trivial
          clear hK K
          try simp only [Act.put, List.setIfInBounds_toArray, List.set_cons_zero, List.set_cons_succ]
          refine wpAnyH_ready (rs := [5]) (by kernel_rfl) (by simp) ?_
          refine AllReadyH.cons rfl (fun K hK => ?_) AllReadyH.nil
          go_simp
          refine hK.out _ _ ?_ (fun hHeld => ?_)
          · exact trivial
          clear hK K
          try simp only [Act.put, List.setIfInBounds_toArray, List.set_cons_zero, List.set_cons_succ]
          refine wpAnyH_take (i := 10) (oi := { dst := some 42, op := _, type := _, pos := _, after := _, guard := _ }) (v := ?_) rfl (by kernel_rfl) (by kernel_rfl) (by kernel_rfl) (fun _ _ _ h => h) (Or.inl ⟨by rfl, ?_⟩) (by assumption) ?_
          rotate_left
          · intro w hSw
            try dsimp only at hSw
            go_simp
            try with_reducible rfl
          try simp only [Act.put, List.setIfInBounds_toArray, List.set_cons_zero, List.set_cons_succ]
          refine wpAnyH_ready (rs := [11]) (by kernel_rfl) (by simp) ?_
          refine AllReadyH.cons rfl (fun K hK => ?_) AllReadyH.nil
          refine step_app_j (w2.alloc (.cells #[] 9)).drew HE.out _ _ HCut.out rfl rfl rfl (by simp [Act.eval, Act.put]) HNd.out HBz2.out ?_
          intro v1 w3 q1 q2 q3
          rw [Nat.zero_add, List.nil_append] at q1
          obtain ⟨vo, vc, hv1⟩ := row_slice q1
          subst hv1
          have H1 := Lib.hid (app_fresh HBA.out q2.out q3.out ⟨_, rfl, HSz.out⟩)
          have HOw1 := Lib.hid q1
          have HB3 := Lib.hid (Nat.le_trans HBz2.out q2.out.size)
          have HU3 := Lib.hid (own_below HU2.out (HAl.out.grown q2.out HAl.out.size (fun k hk => Nat.le_of_eq (Option.some.inj hk))))
          clear q1 q2 q3
          refine hK.out _ _ ?_ (fun hHeld => ?_)
          · exact trivial
          clear hK K
          try simp only [Act.put, List.setIfInBounds_toArray, List.set_cons_zero, List.set_cons_succ]
          refine wpAnyH_ready (rs := [13]) (by kernel_rfl) (by simp) ?_
          refine AllReadyH.cons rfl (fun K hK => ?_) AllReadyH.nil
          refine step_app_j w3 HOw1.out _ _ HU3.out rfl rfl rfl (by simp [Act.eval, Act.put]) HNm.out HB3.out ?_
          intro v' w4 q1 q2 q3
          obtain ⟨v4, k4, hv'⟩ := row_slice q1
          subst hv'
          have H2 := app_fresh H1.out.1 q2.out q3.out H1.out.2
          have HP := Lib.hid (put_new H.out H2.1 H2.2 (by rw [List.length_append, List.length_take, Nat.min_eq_left hdl]) (by rw [scells_two]; exact q1) (by omega) (by have := HKl.out; omega) (two_small H.out.sm HKz.out))
          obtain ⟨d1, d2, P⟩ := HP.out
          have HP := Lib.hid P
          clear P q1 q2 q3 H2
          refine hK.out _ _ ?_ (fun hHeld => ?_)
          · exact trivial
          clear hK K
          try simp only [Act.put, List.setIfInBounds_toArray, List.set_cons_zero, List.set_cons_succ]
          refine wpAnyH_take (i := 14) (oi := { dst := some 46, op := _, type := _, pos := _, after := _, guard := _ }) (v := ?_) rfl (by kernel_rfl) (by kernel_rfl) (by kernel_rfl) (fun _ _ _ h => h) (Or.inl ⟨by rfl, ?_⟩) (by assumption) ?_
          rotate_left
          · intro w hSw
            try dsimp only at hSw
            go_simp
            try with_reducible rfl
          try simp only [Act.put, List.setIfInBounds_toArray, List.set_cons_zero, List.set_cons_succ]
          refine wpAnyH_take (i := 15) (oi := { dst := some 47, op := _, type := _, pos := _, after := _, guard := _ }) (v := ?_) rfl (by kernel_rfl) (by kernel_rfl) (by kernel_rfl) (fun _ _ _ h => h) (Or.inl ⟨by rfl, ?_⟩) (by assumption) ?_
          rotate_left
          · intro w hSw
            try dsimp only at hSw
            go_simp
            try with_reducible rfl
          try simp only [Act.put, List.setIfInBounds_toArray, List.set_cons_zero, List.set_cons_succ]
          refine wpAnyH_ready (rs := [16]) (by kernel_rfl) (by simp) ?_
          refine AllReadyH.cons rfl (fun K hK => ?_) AllReadyH.nil
          go_simp
          refine hK.out _ _ ?_ (fun hHeld => ?_)
          · exact trivial
          clear hK K
          try simp only [Act.put, List.setIfInBounds_toArray, List.set_cons_zero, List.set_cons_succ]
          refine wpAnyH_done (by kernel_rfl) ?_ _
          obtain ⟨e0, e1, e2, e3, e4⟩ := HP.out.1.flat
          go_wp2_with fail
          go_end0
          exact ⟨rfl, _, by rw [HC.out, List.length_append, List.length_take, Nat.min_eq_left hdl]; exact HP.out.1.sync (by rw [List.length_append, List.length_take]; omega), HP.out.2.trans (Mv.set 2 _)⟩
      · go_simp
        refine hK.out _ _ ?_ (fun hHeld => ?_)
        · exact trivial
        clear hK K
        try simp only [Act.put, List.setIfInBounds_toArray, List.set_cons_zero, List.set_cons_succ]
        refine wpAnyH_ready (rs := [1, 9]) (by kernel_rfl) (by simp) ?_
        refine AllReadyH.cons rfl (fun K hK => ?_) (AllReadyH.cons rfl (fun K hK => ?_) AllReadyH.nil)
        · go_simp
          refine hK.out _ _ ?_ (fun hHeld => ?_)
          · exact trivial
          clear hK K
          try simp only [Act.put, List.setIfInBounds_toArray, List.set_cons_zero, List.set_cons_succ]
          refine wpAnyH_ready (rs := [9]) (by kernel_rfl) (by simp) ?_
          refine AllReadyH.cons rfl (fun K hK => ?_) AllReadyH.nil
          go_simp
          refine hK.out _ _ ?_ (fun hHeld => ?_)
          · exact trivial
          clear hK K
          try simp only [Act.put, List.setIfInBounds_toArray, List.set_cons_zero, List.set_cons_succ]
          refine wpAnyH_take (i := 10) (oi := { dst := some 42, op := _, type := _, pos := _, after := _, guard := _ }) (v := ?_) rfl (by kernel_rfl) (by kernel_rfl) (by kernel_rfl) (fun _ _ _ h => h) (Or.inl ⟨by rfl, ?_⟩) (by assumption) ?_
          rotate_left
          · intro w hSw
            try dsimp only at hSw
            go_simp
            try with_reducible rfl
          try simp only [Act.put, List.setIfInBounds_toArray, List.set_cons_zero, List.set_cons_succ]
          refine wpAnyH_ready (rs := [11]) (by kernel_rfl) (by simp) ?_
          refine AllReadyH.cons rfl (fun K hK => ?_) AllReadyH.nil
          refine step_app_j (w2.alloc (.cells #[] 9)).drew HE.out _ _ HCut.out rfl rfl rfl (by simp [Act.eval, Act.put]) HNd.out HBz2.out ?_
          intro v1 w3 q1 q2 q3
          rw [Nat.zero_add, List.nil_append] at q1
          obtain ⟨vo, vc, hv1⟩ := row_slice q1
          subst hv1
          have H1 := Lib.hid (app_fresh HBA.out q2.out q3.out ⟨_, rfl, HSz.out⟩)
          have HOw1 := Lib.hid q1
          have HB3 := Lib.hid (Nat.le_trans HBz2.out q2.out.size)
          have HU3 := Lib.hid (own_below HU2.out (HAl.out.grown q2.out HAl.out.size (fun k hk => Nat.le_of_eq (Option.some.inj hk))))
          clear q1 q2 q3
          refine hK.out _ _ ?_ (fun hHeld => ?_)
          · exact trivial
          clear hK K
          try simp only [Act.put, List.setIfInBounds_toArray, List.set_cons_zero, List.set_cons_succ]
          refine wpAnyH_ready (rs := [13]) (by kernel_rfl) (by simp) ?_
          refine AllReadyH.cons rfl (fun K hK => ?_) AllReadyH.nil
          refine step_app_j w3 HOw1.out _ _ HU3.out rfl rfl rfl (by simp [Act.eval, Act.put]) HNm.out HB3.out ?_
          intro v' w4 q1 q2 q3
          obtain ⟨v4, k4, hv'⟩ := row_slice q1
          subst hv'
          have H2 := app_fresh H1.out.1 q2.out q3.out H1.out.2
          have HP := Lib.hid (put_new H.out H2.1 H2.2 (by rw [List.length_append, List.length_take, Nat.min_eq_left hdl]) (by rw [scells_two]; exact q1) (by omega) (by have := HKl.out; omega) (two_small H.out.sm HKz.out))
          obtain ⟨d1, d2, P⟩ := HP.out
          have HP := Lib.hid P
          clear P q1 q2 q3 H2
          refine hK.out _ _ ?_ (fun hHeld => ?_)
          · exact trivial
          clear hK K
          try simp only [Act.put, List.setIfInBounds_toArray, List.set_cons_zero, List.set_cons_succ]
          refine wpAnyH_take (i := 14) (oi := { dst := some 46, op := _, type := _, pos := _, after := _, guard := _ }) (v := ?_) rfl (by kernel_rfl) (by kernel_rfl) (by kernel_rfl) (fun _ _ _ h => h) (Or.inl ⟨by rfl, ?_⟩) (by assumption) ?_
          rotate_left
          · intro w hSw
            try dsimp only at hSw
            go_simp
            try with_reducible rfl
          try simp only [Act.put, List.setIfInBounds_toArray, List.set_cons_zero, List.set_cons_succ]
          refine wpAnyH_take (i := 15) (oi := { dst := some 47, op := _, type := _, pos := _, after := _, guard := _ }) (v := ?_) rfl (by kernel_rfl) (by kernel_rfl) (by kernel_rfl) (fun _ _ _ h => h) (Or.inl ⟨by rfl, ?_⟩) (by assumption) ?_
          rotate_left
          · intro w hSw
            try dsimp only at hSw
            go_simp
            try with_reducible rfl
          try simp only [Act.put, List.setIfInBounds_toArray, List.set_cons_zero, List.set_cons_succ]
          refine wpAnyH_ready (rs := [16]) (by kernel_rfl) (by simp) ?_
          refine AllReadyH.cons rfl (fun K hK => ?_) AllReadyH.nil
          go_simp
          refine hK.out _ _ ?_ (fun hHeld => ?_)
          · exact trivial
          clear hK K
          try simp only [Act.put, List.setIfInBounds_toArray, List.set_cons_zero, List.set_cons_succ]
          refine wpAnyH_done (by kernel_rfl) ?_ _
          obtain ⟨e0, e1, e2, e3, e4⟩ := HP.out.1.flat
          go_wp2_with fail
          go_end0
          exact ⟨rfl, _, by rw [HC.out, List.length_append, List.length_take, Nat.min_eq_left hdl]; exact HP.out.1.sync (by rw [List.length_append, List.length_take]; omega), HP.out.2.trans (Mv.set 2 _)⟩
        · go_simp
          refine hK.out _ _ ?_ (fun hHeld => ?_)
          · exact trivial
          clear hK K
          try simp only [Act.put, List.setIfInBounds_toArray, List.set_cons_zero, List.set_cons_succ]
          refine wpAnyH_take (i := 10) (oi := { dst := some 42, op := _, type := _, pos := _, after := _, guard := _ }) (v := ?_) rfl (by kernel_rfl) (by kernel_rfl) (by kernel_rfl) (fun _ _ _ h => h) (Or.inl ⟨by rfl, ?_⟩) (by assumption) ?_
          rotate_left
          · intro w hSw
            try dsimp only at hSw
            go_simp
            try with_reducible rfl
          try simp only [Act.put, List.setIfInBounds_toArray, List.set_cons_zero, List.set_cons_succ]
          refine wpAnyH_ready (rs := [1]) (by kernel_rfl) (by simp) ?_
          refine AllReadyH.cons rfl (fun K hK => ?_) AllReadyH.nil
          go_simp
          refine hK.out _ _ ?_ (fun hHeld => ?_)
          · exact trivial
          clear hK K
          try simp only [Act.put, List.setIfInBounds_toArray, List.set_cons_zero, List.set_cons_succ]
          refine wpAnyH_ready (rs := [11]) (by kernel_rfl) (by simp) ?_
          refine AllReadyH.cons rfl (fun K hK => ?_) AllReadyH.nil
          refine step_app_j (w2.alloc (.cells #[] 9)).drew HE.out _ _ HCut.out rfl rfl rfl (by simp [Act.eval, Act.put]) HNd.out HBz2.out ?_
          intro v1 w3 q1 q2 q3
          rw [Nat.zero_add, List.nil_append] at q1
          obtain ⟨vo, vc, hv1⟩ := row_slice q1
          subst hv1
          have H1 := Lib.hid (app_fresh HBA.out q2.out q3.out ⟨_, rfl, HSz.out⟩)
          have HOw1 := Lib.hid q1
          have HB3 := Lib.hid (Nat.le_trans HBz2.out q2.out.size)
          have HU3 := Lib.hid (own_below HU2.out (HAl.out.grown q2.out HAl.out.size (fun k hk => Nat.le_of_eq (Option.some.inj hk))))
          clear q1 q2 q3
          refine hK.out _ _ ?_ (fun hHeld => ?_)
          · exact trivial
          clear hK K
          try simp only [Act.put, List.setIfInBounds_toArray, List.set_cons_zero, List.set_cons_succ]
          refine wpAnyH_ready (rs := [13]) (by kernel_rfl) (by simp) ?_
          refine AllReadyH.cons rfl (fun K hK => ?_) AllReadyH.nil
          refine step_app_j w3 HOw1.out _ _ HU3.out rfl rfl rfl (by simp [Act.eval, Act.put]) HNm.out HB3.out ?_
          intro v' w4 q1 q2 q3
          obtain ⟨v4, k4, hv'⟩ := row_slice q1
          subst hv'
          have H2 := app_fresh H1.out.1 q2.out q3.out H1.out.2
          have HP := Lib.hid (put_new H.out H2.1 H2.2 (by rw [List.length_append, List.length_take, Nat.min_eq_left hdl]) (by rw [scells_two]; exact q1) (by omega) (by have := HKl.out; omega) (two_small H.out.sm HKz.out))
          obtain ⟨d1, d2, P⟩ := HP.out
          have HP := Lib.hid P
          clear P q1 q2 q3 H2
          refine hK.out _ _ ?_ (fun hHeld => ?_)
          · exact trivial
          clear hK K
          try simp only [Act.put, List.setIfInBounds_toArray, List.set_cons_zero, List.set_cons_succ]
          refine wpAnyH_take (i := 14) (oi := { dst := some 46, op := _, type := _, pos := _, after := _, guard := _ }) (v := ?_) rfl (by kernel_rfl) (by kernel_rfl) (by kernel_rfl) (fun _ _ _ h => h) (Or.inl ⟨by rfl, ?_⟩) (by assumption) ?_
          rotate_left
          · intro w hSw
            try dsimp only at hSw
            go_simp
            try with_reducible rfl
          try simp only [Act.put, List.setIfInBounds_toArray, List.set_cons_zero, List.set_cons_succ]
          refine wpAnyH_take (i := 15) (oi := { dst := some 47, op := _, type := _, pos := _, after := _, guard := _ }) (v := ?_) rfl (by kernel_rfl) (by kernel_rfl) (by kernel_rfl) (fun _ _ _ h => h) (Or.inl ⟨by rfl, ?_⟩) (by assumption) ?_
          rotate_left
          · intro w hSw
            try dsimp only at hSw
            go_simp
            try with_reducible rfl
          try simp only [Act.put, List.setIfInBounds_toArray, List.set_cons_zero, List.set_cons_succ]
          refine wpAnyH_ready (rs := [16]) (by kernel_rfl) (by simp) ?_
          refine AllReadyH.cons rfl (fun K hK => ?_) AllReadyH.nil
          go_simp
          refine hK.out _ _ ?_ (fun hHeld => ?_)
          · exact trivial
          clear hK K
          try simp only [Act.put, List.setIfInBounds_toArray, List.set_cons_zero, List.set_cons_succ]
          refine wpAnyH_done (by kernel_rfl) ?_ _
          obtain ⟨e0, e1, e2, e3, e4⟩ := HP.out.1.flat
          go_wp2_with fail
          go_end0
          exact ⟨rfl, _, by rw [HC.out, List.length_append, List.length_take, Nat.min_eq_left hdl]; exact HP.out.1.sync (by rw [List.length_append, List.length_take]; omega), HP.out.2.trans (Mv.set 2 _)⟩
      · go_simp
        refine hK.out _ _ ?_ (fun hHeld => ?_)
        · exact trivial
        clear hK K
        try simp only [Act.put, List.setIfInBounds_toArray, List.set_cons_zero, List.set_cons_succ]
        refine wpAnyH_ready (rs := [1, 5]) (by kernel_rfl) (by simp) ?_
        refine AllReadyH.cons rfl (fun K hK => ?_) (AllReadyH.cons rfl (fun K hK => ?_) AllReadyH.nil)
        · go_simp
          refine hK.out _ _ ?_ (fun hHeld => ?_)
          · exact trivial
          clear hK K
          try simp only [Act.put, List.setIfInBounds_toArray, List.set_cons_zero, List.set_cons_succ]
          refine wpAnyH_ready (rs := [5]) (by kernel_rfl) (by simp) ?_
          refine AllReadyH.cons rfl (fun K hK => ?_) AllReadyH.nil
          go_simp
          refine hK.out _ _ ?_ (fun hHeld => ?_)
          · exact trivial
          clear hK K
          try simp only [Act.put, List.setIfInBounds_toArray, List.set_cons_zero, List.set_cons_succ]
          refine wpAnyH_take (i := 10) (oi := { dst := some 42, op := _, type := _, pos := _, after := _, guard := _ }) (v := ?_) rfl (by kernel_rfl) (by kernel_rfl) (by kernel_rfl) (fun _ _ _ h => h) (Or.inl ⟨by rfl, ?_⟩) (by assumption) ?_
          rotate_left
          · intro w hSw
            try dsimp only at hSw
            go_simp
            try with_reducible rfl
          try simp only [Act.put, List.setIfInBounds_toArray, List.set_cons_zero, List.set_cons_succ]
          refine wpAnyH_ready (rs := [11]) (by kernel_rfl) (by simp) ?_
          refine AllReadyH.cons rfl (fun K hK => ?_) AllReadyH.nil
          refine step_app_j (w2.alloc (.cells #[] 9)).drew HE.out _ _ HCut.out rfl rfl rfl (by simp [Act.eval, Act.put]) HNd.out HBz2.out ?_
          intro v1 w3 q1 q2 q3
          rw [Nat.zero_add, List.nil_append] at q1
          obtain ⟨vo, vc, hv1⟩ := row_slice q1
          subst hv1
          have H1 := Lib.hid (app_fresh HBA.out q2.out q3.out ⟨_, rfl, HSz.out⟩)
          have HOw1 := Lib.hid q1
          have HB3 := Lib.hid (Nat.le_trans HBz2.out q2.out.size)
          have HU3 := Lib.hid (own_below HU2.out (HAl.out.grown q2.out HAl.out.size (fun k hk => Nat.le_of_eq (Option.some.inj hk))))
          clear q1 q2 q3
          refine hK.out _ _ ?_ (fun hHeld => ?_)
          · exact trivial
          clear hK K
          try simp only [Act.put, List.setIfInBounds_toArray, List.set_cons_zero, List.set_cons_succ]
          refine wpAnyH_ready (rs := [13]) (by kernel_rfl) (by simp) ?_
          refine AllReadyH.cons rfl (fun K hK => ?_) AllReadyH.nil
          refine step_app_j w3 HOw1.out _ _ HU3.out rfl rfl rfl (by simp [Act.eval, Act.put]) HNm.out HB3.out ?_
          intro v' w4 q1 q2 q3
          obtain ⟨v4, k4, hv'⟩ := row_slice q1
          subst hv'
          have H2 := app_fresh H1.out.1 q2.out q3.out H1.out.2
          have HP := Lib.hid (put_new H.out H2.1 H2.2 (by rw [List.length_append, List.length_take, Nat.min_eq_left hdl]) (by rw [scells_two]; exact q1) (by omega) (by have := HKl.out; omega) (two_small H.out.sm HKz.out))
          obtain ⟨d1, d2, P⟩ := HP.out
          have HP := Lib.hid P
          clear P q1 q2 q3 H2
          refine hK.out _ _ ?_ (fun hHeld => ?_)
          · exact trivial
          clear hK K
          try simp only [Act.put, List.setIfInBounds_toArray, List.set_cons_zero, List.set_cons_succ]
          refine wpAnyH_take (i := 14) (oi := { dst := some 46, op := _, type := _, pos := _, after := _, guard := _ }) (v := ?_) rfl (by kernel_rfl) (by kernel_rfl) (by kernel_rfl) (fun _ _ _ h => h) (Or.inl ⟨by rfl, ?_⟩) (by assumption) ?_
          rotate_left
          · intro w hSw
            try dsimp only at hSw
            go_simp
            try with_reducible rfl
          try simp only [Act.put, List.setIfInBounds_toArray, List.set_cons_zero, List.set_cons_succ]
          refine wpAnyH_take (i := 15) (oi := { dst := some 47, op := _, type := _, pos := _, after := _, guard := _ }) (v := ?_) rfl (by kernel_rfl) (by kernel_rfl) (by kernel_rfl) (fun _ _ _ h => h) (Or.inl ⟨by rfl, ?_⟩) (by assumption) ?_
          rotate_left
          · intro w hSw
            try dsimp only at hSw
            go_simp
            try with_reducible rfl
          try simp only [Act.put, List.setIfInBounds_toArray, List.set_cons_zero, List.set_cons_succ]
          refine wpAnyH_ready (rs := [16]) (by kernel_rfl) (by simp) ?_
          refine AllReadyH.cons rfl (fun K hK => ?_) AllReadyH.nil
          go_simp
          refine hK.out _ _ ?_ (fun hHeld => ?_)
          · exact trivial
          clear hK K
          try simp only [Act.put, List.setIfInBounds_toArray, List.set_cons_zero, List.set_cons_succ]
          refine wpAnyH_done (by kernel_rfl) ?_ _
          obtain ⟨e0, e1, e2, e3, e4⟩ := HP.out.1.flat
          go_wp2_with fail
          go_end0
          exact ⟨rfl, _, by rw [HC.out, List.length_append, List.length_take, Nat.min_eq_left hdl]; exact HP.out.1.sync (by rw [List.length_append, List.length_take]; omega), HP.out.2.trans (Mv.set 2 _)⟩
        · go_simp
          refine hK.out _ _ ?_ (fun hHeld => ?_)
          · exact trivial
          clear hK K
          try simp only [Act.put, List.setIfInBounds_toArray, List.set_cons_zero, List.set_cons_succ]
          refine wpAnyH_take (i := 10) (oi := { dst := some 42, op := _, type := _, pos := _, after := _, guard := _ }) (v := ?_) rfl (by kernel_rfl) (by kernel_rfl) (by kernel_rfl) (fun _ _ _ h => h) (Or.inl ⟨by rfl, ?_⟩) (by assumption) ?_
          rotate_left
          · intro w hSw
            try dsimp only at hSw
            go_simp
            try with_reducible rfl
          try simp only [Act.put, List.setIfInBounds_toArray, List.set_cons_zero, List.set_cons_succ]
          refine wpAnyH_ready (rs := [1]) (by kernel_rfl) (by simp) ?_
          refine AllReadyH.cons rfl (fun K hK => ?_) AllReadyH.nil
          go_simp
          refine hK.out _ _ ?_ (fun hHeld => ?_)
          · exact trivial
          clear hK K
          try simp only [Act.put, List.setIfInBounds_toArray, List.set_cons_zero, List.set_cons_succ]
          refine wpAnyH_ready (rs := [11]) (by kernel_rfl) (by simp) ?_
          refine AllReadyH.cons rfl (fun K hK => ?_) AllReadyH.nil
          refine step_app_j (w2.alloc (.cells #[] 9)).drew HE.out _ _ HCut.out rfl rfl rfl (by simp [Act.eval, Act.put]) HNd.out HBz2.out ?_
          intro v1 w3 q1 q2 q3
          rw [Nat.zero_add, List.nil_append] at q1
          obtain ⟨vo, vc, hv1⟩ := row_slice q1
          subst hv1
          have H1 := Lib.hid (app_fresh HBA.out q2.out q3.out ⟨_, rfl, HSz.out⟩)
          have HOw1 := Lib.hid q1
          have HB3 := Lib.hid (Nat.le_trans HBz2.out q2.out.size)
          have HU3 := Lib.hid (own_below HU2.out (HAl.out.grown q2.out HAl.out.size (fun k hk => Nat.le_of_eq (Option.some.inj hk))))
          clear q1 q2 q3
          refine hK.out _ _ ?_ (fun hHeld => ?_)
          · exact trivial
          clear hK K
          try simp only [Act.put, List.setIfInBounds_toArray, List.set_cons_zero, List.set_cons_succ]
          refine wpAnyH_ready (rs := [13]) (by kernel_rfl) (by simp) ?_
          refine AllReadyH.cons rfl (fun K hK => ?_) AllReadyH.nil
          refine step_app_j w3 HOw1.out _ _ HU3.out rfl rfl rfl (by simp [Act.eval, Act.put]) HNm.out HB3.out ?_
          intro v' w4 q1 q2 q3
          obtain ⟨v4, k4, hv'⟩ := row_slice q1
          subst hv'
          have H2 := app_fresh H1.out.1 q2.out q3.out H1.out.2
          have HP := Lib.hid (put_new H.out H2.1 H2.2 (by rw [List.length_append, List.length_take, Nat.min_eq_left hdl]) (by rw [scells_two]; exact q1) (by omega) (by have := HKl.out; omega) (two_small H.out.sm HKz.out))
          obtain ⟨d1, d2, P⟩ := HP.out
          have HP := Lib.hid P
          clear P q1 q2 q3 H2
          refine hK.out _ _ ?_ (fun hHeld => ?_)
          · exact trivial
          clear hK K
          try simp only [Act.put, List.setIfInBounds_toArray, List.set_cons_zero, List.set_cons_succ]
          refine wpAnyH_take (i := 14) (oi := { dst := some 46, op := _, type := _, pos := _, after := _, guard := _ }) (v := ?_) rfl (by kernel_rfl) (by kernel_rfl) (by kernel_rfl) (fun _ _ _ h => h) (Or.inl ⟨by rfl, ?_⟩) (by assumption) ?_
          rotate_left
          · intro w hSw
            try dsimp only at hSw
            go_simp
            try with_reducible rfl
          try simp only [Act.put, List.setIfInBounds_toArray, List.set_cons_zero, List.set_cons_succ]
          refine wpAnyH_take (i := 15) (oi := { dst := some 47, op := _, type := _, pos := _, after := _, guard := _ }) (v := ?_) rfl (by kernel_rfl) (by kernel_rfl) (by kernel_rfl) (fun _ _ _ h => h) (Or.inl ⟨by rfl, ?_⟩) (by assumption) ?_
          rotate_left
          · intro w hSw
            try dsimp only at hSw
            go_simp
            try with_reducible rfl
          try simp only [Act.put, List.setIfInBounds_toArray, List.set_cons_zero, List.set_cons_succ]
          refine wpAnyH_ready (rs := [16]) (by kernel_rfl) (by simp) ?_
          refine AllReadyH.cons rfl (fun K hK => ?_) AllReadyH.nil
          go_simp
          refine hK.out _ _ ?_ (fun hHeld => ?_)
          · exact trivial
          clear hK K
          try simp only [Act.put, List.setIfInBounds_toArray, List.set_cons_zero, List.set_cons_succ]
          refine wpAnyH_done (by kernel_rfl) ?_ _
          obtain ⟨e0, e1, e2, e3, e4⟩ := HP.out.1.flat
          go_wp2_with fail
          go_end0
          exact ⟨rfl, _, by rw [HC.out, List.length_append, List.length_take, Nat.min_eq_left hdl]; exact HP.out.1.sync (by rw [List.length_append, List.length_take]; omega), HP.out.2.trans (Mv.set 2 _)⟩

end Go.Proofs.YtafecnaeoeanmaaDoor
