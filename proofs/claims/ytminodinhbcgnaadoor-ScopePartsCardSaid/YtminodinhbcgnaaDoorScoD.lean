/-
  Contracts of scopes, including and of chosen's first closure; IndexFunc and ContainsFunc with it. Condition: lists of at most 5000 strings of at most 1000000 bytes.
-/
import Derived.Test.YtminodinhbcgnaaDoorScoC
set_option maxRecDepth 100000
set_option linter.unusedVariables false
set_option linter.unusedSimpArgs false
set_option linter.unnecessarySimpa false
namespace Go.Proofs.YtminodinhbcgnaaDoor
open Go.RowKit Go.PlainAid Go.Maps Go.ChangeShapes Go.WideShapes Go.ChangeAt

/-! ### the scopes that include one -/
def incK (s : ByteArray) (k : Nat) : List ByteArray := s :: ((List.range k).filter (dotP s)).map fun i => s.extract 0 i
def incL (s : ByteArray) : List ByteArray := incK s s.size
theorem incK_succ (s : ByteArray) (k : Nat) : incK s (k + 1) = if dotP s k = true then incK s k ++ [s.extract 0 k] else incK s k := by
  unfold incK
  rw [List.range_succ, List.filter_append, List.map_append]
  cases h : dotP s k with
  | true => rw [if_pos rfl]; simp [h]
  | false => rw [if_neg Bool.false_ne_true]; simp [h]
theorem incK_len (s : ByteArray) (k : Nat) : (incK s k).length ≤ k + 1 := by
  unfold incK
  rw [List.length_cons, List.length_map]
  have := List.length_filter_le (dotP s) (List.range k)
  rw [List.length_range] at this
  omega
theorem ex_take (s : ByteArray) (i : Nat) : (s.extract 0 i).data.toList = s.data.toList.take i := by
  rw [← Lib.toList_data, Lib.extract_toList]; simp
theorem inc_mem {s t : ByteArray} : t ∈ incL s ↔ impL t.data.toList s.data.toList = true := by
  rw [impL_iff, ba_inj]
  unfold incL incK
  rw [List.mem_cons]
  refine or_congr Iff.rfl ?_
  have hz := Lib.size_eq s
  rw [List.mem_map]
  constructor
  · rintro ⟨i, hi, rfl⟩
    rw [List.mem_filter, List.mem_range] at hi
    obtain ⟨h1, h2⟩ := hi
    rw [bt_dot h1, decide_eq_true_eq] at h2
    rw [ex_take]
    have : s.data.toList.take i ++ [46] = s.data.toList.take (i + 1) := by
      rw [List.take_add_one, h2]; rfl
    rw [this]
    exact List.take_prefix _ _
  · intro h
    have hl := h.length_le
    rw [List.length_append, List.length_singleton] at hl
    have e := List.prefix_iff_eq_take.1 h
    rw [List.length_append, List.length_singleton] at e
    have h1 : t.data.toList.length < s.size := by omega
    have h2 : s.data.toList[t.data.toList.length]? = some 46 := by
      have := congrArg (fun l : List UInt8 => l[t.data.toList.length]?) e
      simp only [List.getElem?_append_right (Nat.le_refl _), Nat.sub_self, List.getElem?_cons_zero] at this
      rw [List.getElem?_take_of_lt (Nat.lt_succ_self _)] at this
      exact this.symm
    refine ⟨t.data.toList.length, ?_, ba_ext ?_⟩
    · rw [List.mem_filter, List.mem_range]
      exact ⟨h1, by rw [bt_dot h1]; exact decide_eq_true h2⟩
    · rw [ex_take]
      have := congrArg (fun l : List UInt8 => l.take t.data.toList.length) e
      simp only [List.take_left, List.take_take] at this
      rw [Nat.min_eq_left (by omega)] at this
      exact this.symm
def hasV (l : List ByteArray) (t : ByteArray) : Bool := memB l t && vdB t
theorem hasV_iff {l : List ByteArray} {t : ByteArray} : hasV l t = true ↔ t ∈ l ∧ vdB t = true := by unfold hasV; rw [Bool.and_eq_true, memB_iff]
theorem cov_inc {l : List ByteArray} {s : ByteArray} : cov l s = (vdB s && (incL s).any (hasV l)) := by
  rw [Bool.eq_iff_iff, cov_iff, Bool.and_eq_true, List.any_eq_true]
  constructor
  · rintro ⟨t, h1, h2⟩
    obtain ⟨a, b, c⟩ := imp_iff.1 h2
    exact ⟨b, t, inc_mem.2 c, hasV_iff.2 ⟨h1, a⟩⟩
  · rintro ⟨b, t, h1, h2⟩
    obtain ⟨h2, a⟩ := hasV_iff.1 h2
    exact ⟨t, h2, imp_iff.2 ⟨a, b, inc_mem.1 h1⟩⟩
theorem lst_inc {l : List ByteArray} {s : ByteArray} (hv : vdB s = true) : lstB l s = !((incL s).any fun t => decide (t ≠ s) && hasV l t) := by
  unfold lstB
  rw [hv, Bool.true_and]
  congr 1
  rw [Bool.eq_iff_iff, List.any_eq_true, List.any_eq_true]
  constructor
  · rintro ⟨t, h1, h2⟩
    rw [Bool.and_eq_true] at h2
    obtain ⟨a, b, c⟩ := imp_iff.1 h2.2
    exact ⟨t, inc_mem.2 c, by rw [h2.1, hasV_iff.2 ⟨h1, a⟩]; rfl⟩
  · rintro ⟨t, h1, h2⟩
    rw [Bool.and_eq_true] at h2
    obtain ⟨h3, a⟩ := hasV_iff.1 h2.2
    exact ⟨t, h3, by rw [h2.1, imp_iff.2 ⟨a, hv, inc_mem.1 h1⟩]; rfl⟩

theorem pt_eq (s : ByteArray) : (s.toList == ([46] : List UInt8)) = decide (s = ⟨#[46]⟩) := by
  have h := str_eq s ⟨#[46]⟩
  rwa [show (⟨#[46]⟩ : ByteArray).toList = ([46] : List UInt8) by rw [Lib.toList_data]] at h
theorem one_dot {s : ByteArray} {k : Nat} (h : k < s.size) : ((s.extract k (k + 1)).toList == ([46] : List UInt8)) = dotP s k := by
  rw [pt_eq, bt_dot h]
  refine decide_eq_decide.2 ?_
  rw [← ba_inj]
  have e : (s.extract k (k + 1)).data.toList = (s.data.toList.drop k).take 1 := by
    rw [← Lib.toList_data, Lib.extract_toList]; simp
  have hl : k < s.data.toList.length := by simpa using h
  rw [e, List.getElem?_eq_getElem hl, List.drop_eq_getElem_cons hl]
  show [s.data.toList[k]] = [46] ↔ _
  simp
theorem own_one (w : World) (s : ByteArray) {B : Nat} (hB : B ≤ w.heap.size) : (w.alloc (.cells #[.string s] 9)).ownsRow B 9 1 (.slice (some ⟨w.heap.size, 0, none⟩) 1 1) 1 [.string s] :=
  World.ownsRow_lit w #[.string s] 1 hB (by decide) rfl
set_option maxHeartbeats 4000000 in
theorem including_k (s : ByteArray) (w : World) (hs : s.size ≤ 1000000) :
    Calls Tryd.prog 36 #[.string s] w fun e w' => ∃ v, e = .returned v ∧ w'.ownsRow w.heap.size 9 1 v (incL s).length (scells (incL s)) ∧ Below w.heap.size w w' := by
  have HO := Lib.hid (own_one w s (Nat.le_refl w.heap.size))
  have HB := Lib.hid (box_below w (.cells #[.string s] 9))
  go_enter Tryd.func36, Tryd.ntmps36
  go_wp2_with fail
  go_loopw [3, 9] (fun lv i wr => ∃ (k : Nat) (L : List ByteArray), k ≤ s.size ∧ i = .int .i64 k ∧ L.length ≤ k + 1 ∧ Hid (incK s k = L) ∧ wr.ownsRow w.heap.size 9 1 lv L.length (scells L) ∧ Below w.heap.size w wr) (fun _ i _ => s.size - (intOf i).toNat)
  case atStart => exact ⟨0, [s], Nat.zero_le _, rfl, Nat.le_refl _, Lib.hid rfl, HO.out, HB.out⟩
  case round =>
    obtain ⟨k, L, hk, rfl, hL, HL, hown, hbel⟩ := hrel
    by_cases hlt : k < s.size
    · have d1 : (k : Int) < (s.size : Int) := by omega
      have HN := Lib.hid (incK_succ s k)
      have q := one_dot hlt
      cases hd : dotP s k with
      | true =>
        rw [hd] at q HN
        rw [if_pos rfl, HL.out] at HN
        have HX := HN
        clear HN hd
        obtain ⟨p, hp⟩ : ∃ p, s.extract 0 k = p := ⟨_, rfl⟩
        rw [hp] at HX
        have HC := Lib.hid (scells_snoc L p)
        go_wp2_with (at_builtin; go_must (refine push_str _ hown (.tmp 18) (.tmp 22) p ?_ ?_ ?_ ?_ ?_ ?_ ?_; exact rfl; exact rfl; exact rfl; exact rfl; omega; exact hbel.size; intro v3 w3 hown3 hb3))
        go_roundw
        case rel => exact ⟨k + 1, L ++ [p], by omega, by go_num, by simp; omega, HX, by rw [HC.out, List.length_append]; exact hown3, hbel.trans hb3⟩
        case measure => simp [intOf]; omega
      | false =>
        rw [hd] at q HN
        rw [if_neg Bool.false_ne_true, HL.out] at HN
        have HX := HN
        clear HN hd
        go_wp2_with fail
        go_roundw
        case rel => exact ⟨k + 1, L, by omega, by go_num, by omega, HX, hown, hbel⟩
        case measure => simp [intOf]; omega
    · have hke : k = s.size := by omega
      have HE := Lib.hid (show incL s = L by rw [← HL.out, hke]; rfl)
      have d1 : ¬ (k : Int) < (s.size : Int) := by omega
      clear hke
      go_wp2_with fail
      go_ret
      exact ⟨_, rfl, by rw [HE.out]; exact hown, hbel⟩

/-! ### the map of a list's scopes -/
def hdF (l : List ByteArray) (k : ByteArray) : Option Value := if hasV l k = true then some (.bool true) else none
theorem memB_snoc (ks : List ByteArray) (s k : ByteArray) : memB (ks ++ [s]) k = (memB ks k || decide (s = k)) := by
  unfold memB; rw [List.any_append]; simp
theorem hdF_snoc (l : List ByteArray) (s k : ByteArray) : hdF (l ++ [s]) k = if vdB s = true then setO (hdF l) s (.bool true) k else hdF l k := by
  unfold hdF hasV setO
  rw [memB_snoc]
  by_cases e : k = s
  · subst e
    rw [decide_eq_true rfl, Bool.or_true, Bool.true_and]
    cases hv : vdB k with
    | true => simp
    | false => simp [hv]
  · rw [decide_eq_false (fun h => e h.symm), Bool.or_false]
    cases hv : vdB s with
    | true => rw [if_pos rfl, if_neg e]
    | false => rw [if_neg Bool.false_ne_true]
theorem zero_b (w : World) : (zeroValue 4).run Tryd.prog w = .ok (.bool false) w := by rfl
theorem hd_getD (l : List ByteArray) (k : ByteArray) : (hdF l k).getD (.bool false) = .bool (hasV l k) := by
  unfold hdF
  cases hasV l k <;> rfl
theorem SMap.held {w : World} {g n : Nat} {l : List ByteArray} (h : SMap w g n (hdF l)) (k : ByteArray) (hk : k.size ≤ maxLen) :
    (Instr.lookup 42 (.map (some g)) (.string k) false).run Tryd.prog w = .ok (.bool (hasV l k)) w := by
  rw [h.look (e := 4) Tryd.underlying42 (zero_b w) k hk, hd_getD]
set_option maxHeartbeats 4000000 in
theorem scopes_k (ao : Option Addr) (n cap : Nat) (l : List ByteArray) (w : World) (h : StrsAt w ao n cap l) (hs : SmS l) (ho : MaxOk w) :
    Calls Tryd.prog 35 #[.slice ao n cap] w fun e w' => e = .returned (.map (some w.heap.size)) ∧ (∃ m, m ≤ l.length ∧ SMap w' w.heap.size m (hdF l)) ∧ Below w.heap.size w w' := by
  obtain ⟨h1, h2, h3, h4⟩ := h
  subst h1
  unfold maxLen at h3
  have H4 := Lib.hid h4; clear h4
  have hll := hs.1
  have HS := Lib.hid hs.2; clear hs
  have HOk := Lib.hid (fun W (hW : Below w.heap.size w W) => ho.step hW)
  clear ho
  have HB0 : Hid (Below w.heap.size w (w.alloc (.map #[] 0))) := Lib.hid ((Below.refl _ _).alloc (Nat.le_refl _) _)
  have HG0 : Hid (SMap (w.alloc (.map #[] 0)) w.heap.size 0 (hdF [])) := Lib.hid ((smap_made w).fn fun k => rfl)
  have hmm := @run_makeMap Tryd.prog
  go_enter Tryd.func35, Tryd.ntmps35
  go_wp2
  clear hmm
  go_loopw [9] (fun i wr => ∃ (k m : Nat), k ≤ l.length ∧ m ≤ k ∧ i = .int .i64 k ∧ Hid (SMap wr w.heap.size m (hdF (l.take k))) ∧ Hid (Below w.heap.size w wr)) (fun i _ => l.length - (intOf i).toNat)
  case atStart => exact ⟨0, 0, Nat.zero_le _, Nat.le_refl _, rfl, HG0, HB0⟩
  case round =>
    clear HB0 HG0
    obtain ⟨k, m, hk, hm, rfl, HG, HB⟩ := hrel
    by_cases hlt : k < l.length
    · obtain ⟨b, off, rfl, hs⟩ := H4.out (by omega)
      have hcell := (hs.below HB.out hs.1).2 k hlt
      clear hs
      obtain ⟨p, hpe⟩ : ∃ p, partAt l k = p := ⟨_, rfl⟩
      have hps : p.size ≤ 1000000 := by rw [← hpe]; exact HS.out k hlt
      rw [hpe] at hcell
      have HT := Lib.hid (show l.take (k + 1) = l.take k ++ [p] by rw [← hpe]; exact take_snoc l k hlt)
      clear hpe
      have d1 : (k : Int) < (l.length : Int) := by omega
      obtain ⟨vb, hv⟩ : ∃ x, vdB p = x := ⟨_, rfl⟩
      have HV := Lib.hid (valid_k p vb wr hps (HOk.out _ HB.out) hv)
      cases vb with
      | true =>
        obtain ⟨w', hrun, HG', hgr⟩ := HG.out.store (e := 4) Tryd.underlying42 (by unfold maxLen; omega) p (by unfold maxLen; omega) (.bool true)
        have HG2 : Hid (∃ m', m' ≤ k + 1 ∧ SMap w' w.heap.size m' (hdF (l.take (k + 1)))) := Lib.hid ⟨_, by split <;> omega, HG'.fn fun j => by rw [HT.out, hdF_snoc, if_pos hv]⟩
        have HB2 := Lib.hid (HB.out.grown hgr (HB.out.size) (fun j hj => by cases hj; exact Nat.le_refl _))
        clear HG' hgr hv
        go_wp2_with fail
        refine HV.out.mono ?_
        rintro e w2 ⟨rfl, rfl⟩
        go_wp2_with fail
        go_roundw
        case rel =>
          obtain ⟨m', h1, h2⟩ := HG2.out
          exact ⟨k + 1, m', by omega, h1, by go_num, Lib.hid h2, HB2⟩
        case measure => simp [intOf]; omega
      | false =>
        have HG2 : Hid (SMap wr w.heap.size m (hdF (l.take (k + 1)))) := Lib.hid (HG.out.fn fun j => by rw [HT.out, hdF_snoc, if_neg (by rw [hv]; simp)])
        clear hv
        go_wp2_with fail
        refine HV.out.mono ?_
        rintro e w2 ⟨rfl, rfl⟩
        go_wp2_with fail
        go_roundw
        case rel => exact ⟨k + 1, m, by omega, by omega, by go_num, HG2, HB⟩
        case measure => simp [intOf]; omega
    · have hke : k = l.length := by omega
      subst hke
      have d1 : ¬ (l.length : Int) < (l.length : Int) := by omega
      go_wp2_with fail
      go_ret
      have hg := HG.out
      rw [List.take_length] at hg
      exact ⟨rfl, ⟨m, hm, hg⟩, HB.out⟩

/-! ### the first closure, and searches with it -/
theorem has_k (bx g m : Nat) (all : List ByteArray) (s : ByteArray) (r : Bool) (w : World) (hk : KbC w bx (.cells #[.map (some g)] 42)) (h : SMap w g m (hdF all)) (hs : s.size ≤ 1000000) (hr : hasV all s = r) :
    Calls Tryd.prog 55 #[.string s, .pointer (some ⟨bx, 0, none⟩)] w fun e w' => e = .returned (.bool r) ∧ w = w' := by
  have c0 := hk.cell (i := 0) rfl
  have hl := h.held s (by unfold maxLen; omega)
  rw [hr] at hl
  clear hk h hr
  go_enter Tryd.func55, Tryd.ntmps55
  go_wp2_with fail
  go_ret
  exact ⟨rfl, rfl⟩
/-- the first of l with f, or -1 -/
def fstI (f : ByteArray → Bool) (l : List ByteArray) : Int := if l.any f = true then (l.findIdx f : Int) else -1
theorem fstI_at {f : ByteArray → Bool} {l : List ByteArray} {k : Nat} (h : k < l.length) (e : f (partAt l k) = true) (hn : ∀ j, j < k → f (partAt l j) = false) : fstI f l = (k : Int) := by
  unfold fstI
  rw [if_pos (List.any_eq_true.2 ⟨_, part_mem l k h, e⟩)]
  congr 1
  rw [List.findIdx_eq h]
  rw [part_get h] at e
  refine ⟨e, fun j hj => ?_⟩
  have := hn j hj
  rwa [part_get (by omega)] at this
theorem fstI_none {f : ByteArray → Bool} {l : List ByteArray} (h : ∀ j, j < l.length → f (partAt l j) = false) : l.any f = false := by
  rw [List.any_eq_false]
  intro s hs
  obtain ⟨j, hj, rfl⟩ := List.getElem_of_mem hs
  have := h j hj
  rw [part_get hj] at this
  rw [this]; exact Bool.false_ne_true
theorem fstI_no {f : ByteArray → Bool} {l : List ByteArray} (h : l.any f = false) : fstI f l = -1 := by unfold fstI; rw [h]; rfl
theorem fstI_yes {f : ByteArray → Bool} {l : List ByteArray} (h : l.any f = true) : ∃ k : Nat, fstI f l = (k : Int) := by unfold fstI; rw [h]; exact ⟨_, rfl⟩
set_option maxHeartbeats 2000000 in
theorem idxh_k (bx g m : Nat) (all : List ByteArray) (ao : Option Addr) (n cap : Nat) (l : List ByteArray) (r : Int) (w : World) (hk : KbC w bx (.cells #[.map (some g)] 42)) (hall : SMap w g m (hdF all)) (h : StrsAt w ao n cap l) (hs : ∀ s ∈ l, s.size ≤ 1000000) (hr : fstI (hasV all) l = r) :
    Calls Tryd.prog 81 #[.slice ao n cap, .func (.func 55) #[] #[.pointer (some ⟨bx, 0, none⟩)]] w fun e w' => e = .returned (.int .i64 r) ∧ w = w' := by
  obtain ⟨h1, h2, h3, h4⟩ := h
  subst h1
  unfold maxLen at h3
  have H4 := Lib.hid h4; clear h4
  have HR := Lib.hid hr; clear hr
  have HF := Lib.hid (fun s r hz hr => has_k bx g m all s r w hk hall hz hr)
  have HS := Lib.hid hs
  clear hk hall hs
  go_enter Tryd.func81, Tryd.ntmps81
  go_wp2
  go_loop [8] (fun i => ∃ k : Nat, k ≤ l.length ∧ i = .int .i64 k ∧ Hid (∀ j, j < k → hasV all (partAt l j) = false)) (fun i => l.length - (intOf i).toNat)
  case atStart => exact ⟨0, Nat.zero_le _, rfl, Lib.hid (fun j hj => absurd hj (Nat.not_lt_zero _))⟩
  case round =>
    obtain ⟨k, hk, rfl, HA⟩ := hrel
    by_cases hlt : k < l.length
    · obtain ⟨b, off, rfl, hs⟩ := H4.out (by omega)
      have hcell := hs.2 k hlt
      clear hs
      obtain ⟨p, hpe⟩ : ∃ p, p = partAt l k := ⟨_, rfl⟩
      rw [← hpe] at hcell
      have HP := Lib.hid hpe
      have hz : p.size ≤ 1000000 := by rw [hpe]; exact HS.out _ (part_mem l k hlt)
      clear hpe
      have d1 : (k : Int) < (l.length : Int) := by omega
      obtain ⟨y, hy⟩ : ∃ y, hasV all p = y := ⟨_, rfl⟩
      have HC := Lib.hid (HF.out p y hz hy)
      cases y with
      | true =>
        have HE := Lib.hid (show r = (k : Int) by rw [← HR.out]; exact fstI_at hlt (by rw [← HP.out]; exact hy) HA.out)
        clear hy
        go_wp2_with fail
        refine HC.out.mono ?_
        rintro e w' ⟨rfl, rfl⟩
        go_wp2_with fail
        go_ret
        exact ⟨by rw [HE.out]; rfl, rfl⟩
      | false =>
        have HN := Lib.hid hy
        clear hy
        go_wp2_with fail
        refine HC.out.mono ?_
        rintro e w' ⟨rfl, rfl⟩
        go_wp2_with fail
        go_round
        case rel =>
          refine ⟨k + 1, by omega, by go_num, Lib.hid fun j hj => ?_⟩
          by_cases e : j = k
          · rw [e, ← HP.out]; exact HN.out
          · exact HA.out j (by omega)
        case measure => simp [intOf]; omega
    · have HE := Lib.hid (show r = -1 by rw [← HR.out]; exact fstI_no (fstI_none fun j hj => HA.out j (by omega)))
      have d1 : ¬ (k : Int) < (l.length : Int) := by omega
      go_wp2_with fail
      go_ret
      exact ⟨by rw [HE.out]; rfl, rfl⟩
theorem conh_k (bx g m : Nat) (all : List ByteArray) (ao : Option Addr) (n cap : Nat) (l : List ByteArray) (r : Bool) (w : World) (hk : KbC w bx (.cells #[.map (some g)] 42)) (hall : SMap w g m (hdF all)) (h : StrsAt w ao n cap l) (hs : ∀ s ∈ l, s.size ≤ 1000000) (hr : l.any (hasV all) = r) :
    Calls Tryd.prog 57 #[.slice ao n cap, .func (.func 55) #[] #[.pointer (some ⟨bx, 0, none⟩)]] w fun e w' => e = .returned (.bool r) ∧ w = w' := by
  cases r with
  | true =>
    obtain ⟨k, he⟩ := fstI_yes hr
    have HI := Lib.hid (idxh_k bx g m all ao n cap l k w hk hall h hs he)
    have d : (0 : Int) ≤ (k : Int) := by omega
    clear h hr he hk hall hs
    go_enter Tryd.func57, Tryd.ntmps57
    go_wp2_with fail
    refine HI.out.mono ?_
    rintro e w' ⟨rfl, rfl⟩
    go_wp2_with fail
    go_ret
    exact ⟨rfl, rfl⟩
  | false =>
    have HI := Lib.hid (idxh_k bx g m all ao n cap l (-1) w hk hall h hs (fstI_no hr))
    clear h hr hk hall hs
    go_enter Tryd.func57, Tryd.ntmps57
    go_wp2_with fail
    refine HI.out.mono ?_
    rintro e w' ⟨rfl, rfl⟩
    go_wp2_with fail
    go_ret
    exact ⟨rfl, rfl⟩

end Go.Proofs.YtminodinhbcgnaaDoor
