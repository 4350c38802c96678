/-
  The contract of clock.ascending. Condition: at most 1000 windows.
-/
import Derived.Test.YtnncfifpgjlpaabDoorClkDel
import Derived.Test.YtnncfifpgjlpaabDoorShelfK
set_option linter.unusedVariables false
set_option linter.unusedSimpArgs false
set_option linter.unnecessarySimpa false
namespace Go.Proofs.YtnncfifpgjlpaabDoor
open Go.RowKit Go.PlainAid Go.Shelf Go.Sort

theorem lt_from (x y : Wn) : ltOf (fun x y : Wn => Lib.compareInt x.1 y.1) x y = decide (x.1 < y.1) := by
  unfold ltOf Lib.compareInt
  by_cases h1 : x.1 < y.1
  · simp [h1]
  · by_cases h2 : y.1 < x.1
    · simp [h1, h2]
    · simp [h1, h2]
theorem swo_from : SWO (ltOf fun x y : Wn => Lib.compareInt x.1 y.1) where
  irrefl x := by rw [lt_from]; simp
  trans x y z h1 h2 := by
    rw [lt_from, decide_eq_true_iff] at *; omega
  ntrans x y z h1 h2 := by
    rw [lt_from, decide_eq_false_iff_not] at *; omega
set_option maxHeartbeats 1000000 in
theorem cmp_s (x y : Wn) (W : World) : Calls Tryd.prog 48 #[.agg #[.int .i64 x.1, .int .i64 x.2], .agg #[.int .i64 y.1, .int .i64 y.2]] W fun e w' => e = .returned (.int .i64 (Lib.compareInt x.1 y.1)) ∧ ∃ q os', w' = Go.Sort.grow (W.drewN q) os' := by
  have hcon := fun W' => Tryd.cmp_Compare_int x.1 y.1 W'
  generalize Lib.compareInt x.1 y.1 = r at hcon ⊢
  go_enter Tryd.func48, Tryd.ntmps48
  go_wp2_with (go_at_call 49; refine (hcon _).mono ?_; rintro e w' ⟨rfl, rfl⟩)
  go_ret
  exact ⟨rfl, 0, _, by rw [Go.Sort.alloc_eq_grow, Go.Sort.alloc_eq_grow, Go.Sort.grow_grow]; rfl⟩
theorem below_sortK (w : World) (B g m : Nat) (d : Array Wn) (os : Array Obj) (hg : B ≤ g) (hB : B ≤ w.heap.size) : RowKit.Below B w (sortWorldK encW 2 w g 0 m d os) := by
  have h1 : RowKit.Below B w (putRowK encW 2 (Go.Sort.ahead w m) g 0 d) := ⟨rfl, rfl, rfl, by show w.heap.size ≤ (w.heap.modify g _).size; simp, fun k hk => by
    show (w.heap.modify g _)[k]? = _
    rw [Array.getElem?_modify, if_neg (by omega)]⟩
  have h2 : (putRowK encW 2 (Go.Sort.ahead w m) g 0 d).heap.size = w.heap.size := by show (w.heap.modify g _).size = _; simp
  refine h1.trans ⟨rfl, rfl, rfl, ?_, fun k hk => ?_⟩
  · show _ ≤ (Go.Sort.grow _ os).heap.size
    rw [Go.Sort.size_grow]; omega
  · exact Go.Sort.heap_grow_old _ os (by omega)
theorem holds_own {w : World} {base g n cap : Nat} {zs : List Wn} (h : w.ownsRow base 27 2 (.slice (some ⟨g, 0, none⟩) n cap) n (wcells zs)) : HoldsK encW 2 w g 0 zs.toArray := by
  intro j hj
  have hl := own_len h
  have hj2 : j < zs.toArray.size * 2 := by rw [size_flatK] at hj; exact hj
  have hs : zs.toArray.size = zs.length := by simp
  have hk := own_cellsAt h (j / 2) (by omega)
  rw [get_flatK _ _ _ _ hj2]
  have e : (zs.toArray)[j / 2]! = wnAt zs (j / 2) := by
    rw [← get_wn]; simp
  rw [e]
  refine ⟨?_, h.frozenAt _⟩
  rcases Nat.mod_two_eq_zero_or_one j with e2 | e2
  · rw [e2, show 0 + j = j / 2 * 2 by omega, hk.1]; rfl
  · rw [e2, show 0 + j = j / 2 * 2 + 1 by omega, hk.2]; rfl
theorem wins_holds {w : World} {g cap : Nat} {d : Array Wn} (h : HoldsK encW 2 w g 0 d) (hg : g < w.heap.size) (h1 : d.size ≤ cap) (h2 : cap ≤ maxLen) : WinsAt w (some ⟨g, 0, none⟩) d.size cap d.toList := by
  refine ⟨by simp, h1, h2, fun _ => ⟨g, 0, rfl, hg, fun j hj => ?_⟩⟩
  have hj2 : j < d.size := by simpa using hj
  have e : wnAt d.toList j = d[j]! := by
    rw [← get_wn, getElem!_pos d j hj2, getElem!_pos d.toList j hj]; simp
  have c0 := (h.cell hj2 (c := 0) (by omega)).1
  have c1 := (h.cell hj2 (c := 1) (by omega)).1
  rw [e]
  exact ⟨c0, c1⟩
/-- what sorting the windows that are not empty gives -/
def AscOf (ps qs : List Wn) : Prop := Full qs ∧ Asc qs ∧ (∀ p, p ∈ qs ↔ p ∈ ps ∧ p.1 < p.2) ∧ qs.length ≤ ps.length
theorem asc_nil : AscOf [] [] := ⟨fun w h => (by cases h), List.Pairwise.nil, fun p => by simp, Nat.le_refl _⟩
theorem keep_lt (p : Wn) : keepB p = true ↔ p.1 < p.2 := by
  unfold keepB emptyB
  rw [Bool.not_eq_true', decide_eq_false_iff_not]
  omega
theorem asc_of (ps : List Wn) (d' : Array Wn) (hp : PermIn 0 (ps.filter keepB).toArray.size (ps.filter keepB).toArray d') (hs : SortedIn (ltOf fun x y : Wn => Lib.compareInt x.1 y.1) 0 (ps.filter keepB).toArray.size d') : AscOf ps d'.toList := by
  obtain ⟨h1, _, h3⟩ := hp
  have hperm : d'.toList.Perm (ps.filter keepB) := by
    have e1 : d'.extract 0 (ps.filter keepB).toArray.size = d' := by rw [← h1]; simp
    have e2 : (ps.filter keepB).toArray.extract 0 (ps.filter keepB).toArray.size = (ps.filter keepB).toArray := by simp
    rw [e1, e2] at h3
    simpa using h3
  have hm : ∀ p, p ∈ d'.toList ↔ p ∈ ps ∧ p.1 < p.2 := fun p => by rw [hperm.mem_iff, List.mem_filter, keep_lt]
  refine ⟨fun p hp => ((hm p).1 hp).2, ?_, hm, by rw [hperm.length_eq]; exact List.length_filter_le _ _⟩
  unfold Asc
  rw [List.pairwise_iff_getElem]
  intro i j hi hj hij
  have := hs i j (Nat.zero_le _) hij (by rw [← h1]; simpa using hj)
  rw [lt_from, decide_eq_false_iff_not] at this
  have ei : d'[i]! = d'.toList[i] := by rw [getElem!_pos d' i (by simpa using hi)]; simp
  have ej : d'[j]! = d'.toList[j] := by rw [getElem!_pos d' j (by simpa using hj)]; simp
  rw [ei, ej] at this
  omega

theorem sort_own (w : World) (base g n cap : Nat) (zs : List Wn) (h : w.ownsRow base 27 2 (.slice (some ⟨g, 0, none⟩) n cap) n (wcells zs)) (hn : n ≤ 1000) (hbase : base ≤ g) (hB : base ≤ w.heap.size) :
    Calls Tryd.prog 47 #[.slice (some ⟨g, 0, none⟩) n cap, .func (.func 48) #[] #[]] w fun e w' =>
      e = .returned (.tuple #[]) ∧ ∃ d', PermIn 0 zs.toArray.size zs.toArray d' ∧ SortedIn (ltOf fun x y : Wn => Lib.compareInt x.1 y.1) 0 zs.toArray.size d' ∧ WinsAt w' (some ⟨g, 0, none⟩) n cap d'.toList ∧ RowKit.Below base w w' := by
  have hl := own_len h
  have hsz : zs.toArray.size = n := by simpa using hl
  have hg := (h.lt g rfl).2
  have hcap : n ≤ cap ∧ cap ≤ maxLen := by
    obtain ⟨_, ⟨he, _⟩ | ⟨g', cap', cur, he, _, _, h4, h5, _⟩⟩ := h
    · cases he
    · cases he; exact ⟨h4, h5⟩
  have eg : ∀ args w, (callFunc 48 args).run Tryd.prog w = .ok (.enter 48 args) w := enters_of Tryd.func48 (by kernel_rfl) rfl
  have hH := holds_own h
  have hcon := AnyQ.slices_SortFunc Tryd.layF6 2 Tryd.isAgg27 Tryd.sizeOf27 encW (fun _ => rfl) (fun x v hv => by simp [encW] at hv; rcases hv with rfl | rfl <;> rfl) (fun x y => Lib.compareInt x.1 y.1) swo_from 48 #[] g 0 cap zs.toArray w eg (fun _ _ _ _ x y => cmp_s x y _) hH hg (by rw [hsz]; omega)
  rw [hsz] at hcon ⊢
  refine hcon.mono fun e w' h => ?_
  obtain ⟨he, d', m, os, hp, hs, rfl⟩ := h
  have hz : d'.size = n := by have := hp.1; omega
  have hH2 := holdsK_sortWorldK_c encW 2 w g 0 zs.toArray d' m os hH hg (by rw [hz, hsz])
  have hsw : g < (sortWorldK encW 2 w g 0 m d' os).heap.size := Nat.lt_of_lt_of_le hg (size_sortWorldK_c encW 2 w g 0 m d' os)
  have hw := wins_holds hH2 hsw (by rw [hz]; exact hcap.1) hcap.2
  rw [hz] at hw
  exact ⟨he, d', hp, hs, hw, below_sortK w base g m d' os hbase hB⟩

set_option maxRecDepth 100000 in
set_option maxHeartbeats 4000000 in
theorem asc_s (ao : Option Addr) (n cap : Nat) (ps : List Wn) (w : World) (h : WinsAt w ao n cap ps) (hn : n ≤ 1000) (h0 : ao = none → n = 0 ∧ cap = 0) :
    Calls Tryd.prog 34 #[.slice ao n cap] w fun e w' => ∃ bo m dap qs, e = .returned (.slice bo m dap) ∧ WinsAt w' bo m dap qs ∧ AscOf ps qs ∧ RowKit.Below w.heap.size w w' := by
  have H := Lib.hid h
  have H0 := Lib.hid h0
  have HPN := Lib.hid h.1
  clear h h0
  go_enter Tryd.func34, Tryd.ntmps34
  go_wp2_with fail
  refine (clone_s ao n cap ps _ H.out hn H0.out).mono ?_
  rintro e w1 ⟨v, rfl, hown, hb⟩
  rcases (show v = .slice none 0 0 ∧ n = 0 ∨ ∃ g c, v = .slice (some ⟨g, 0, none⟩) n c ∧ w.heap.size ≤ g from by
    obtain ⟨_, ⟨he, hz⟩ | ⟨g, c, cur, he, h2, _⟩⟩ := hown
    · exact .inl ⟨he, hz⟩
    · exact .inr ⟨g, c, he, h2⟩) with ⟨rfl, rfl⟩ | ⟨g, c, rfl, hg⟩
  · have hp : ps = [] := List.length_eq_zero_iff.1 HPN.out
    have HA := Lib.hid (show AscOf ps [] by rw [hp]; exact asc_nil)
    clear hown hp
    go_wp2_with fail
    refine (delete_nil _).mono ?_
    rintro e w' ⟨rfl, rfl⟩
    go_wp2_with fail
    refine Calls.mono (show Calls Tryd.prog 47 #[.slice none 0 0, .func (.func 48) #[] #[]] w1 _ from AnyF.slices_SortFunc_none Tryd.layF6 none 0 _ w1) ?_
    rintro e w' ⟨rfl, rfl⟩
    go_wp2_with fail
    go_ret
    exact ⟨none, 0, 0, [], rfl, ⟨rfl, Nat.le_refl _, Nat.zero_le _, fun h => absurd h (Nat.lt_irrefl _)⟩, HA.out, hb⟩
  · have HO := Lib.hid hown
    clear hown
    go_wp2_with fail
    refine (delete_own w1 w.heap.size g n c ps HO.out hn hg).mono ?_
    rintro e w2 ⟨m, rfl, hm, hown2, hb2⟩
    have HO2 := Lib.hid hown2
    clear hown2
    have HB2 := Lib.hid (hb.trans hb2)
    go_wp2_with fail
    refine (sort_own w2 w.heap.size g m c _ HO2.out (by omega) hg HB2.out.size).mono ?_
    rintro e w3 ⟨rfl, d', hp, hs, hw, hb3⟩
    have HA := Lib.hid (asc_of ps d' hp hs)
    have HW := Lib.hid hw
    clear hp hs hw
    go_wp2_with fail
    go_ret
    exact ⟨_, m, c, d'.toList, rfl, HW.out, HA.out, HB2.out.trans hb3⟩

end Go.Proofs.YtnncfifpgjlpaabDoor
