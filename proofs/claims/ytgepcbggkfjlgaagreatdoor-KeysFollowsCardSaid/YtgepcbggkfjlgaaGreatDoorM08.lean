/-
  Texts of the schema layer and of those beneath it, joined: KeyA, KeyB. Conditions stand at each contract.
-/
import Derived.Deep.RegionHeld3
import Derived.Deep.QuietTactic
import Derived.BigQuiet
import Derived.Lib.MinMax
import Derived.Test.YtgepcbggkfjlgaaGreatDoorM01
import Derived.Test.YtgepcbggkfjlgaaGreatDoorM02
import Derived.Test.YtgepcbggkfjlgaaGreatDoorM06
import Derived.Test.YtgepcbggkfjlgaaGreatDoorM07

section
/-
  Contracts of keys' leaves: find, checkNew, ordered, and of the specification's windows. Condition: strings of at most 1000000000 bytes.
-/
set_option maxRecDepth 100000
set_option linter.unusedVariables false
set_option linter.unusedSimpArgs false
set_option linter.unnecessarySimpa false
namespace Go.Proofs.YtgepcbggkfjlgaaGreatDoor
open Go.RowKit Go.PlainAid

theorem str_eq' (a b : ByteArray) : (a.toList == b.toList) = decide (a = b) := by
  rw [Lib.toList_data, Lib.toList_data, Bool.eq_iff_iff, beq_iff_eq, decide_eq_true_eq]
  exact ⟨fun h => by rw [← Lib.mk_data a, ← Lib.mk_data b, h], fun h => by rw [h]⟩
theorem word_k (s : ByteArray) (x : Bool) (w : World) (hs : s.size ≤ 1000000000) (hx : wordB s = x) :
    Calls Tryz.prog 69 #[.string s] w fun e w' => e = .returned (.bool x) ∧ w = w' := by
  subst hx; exact word_s s w hs
theorem rword_k (s : ByteArray) (x : Bool) (w : World) (hs : s.size ≤ 1000000000) (hx : wordB s = x) :
    Calls Tryz.prog 34 #[.string s] w fun e w' => e = .returned (.bool x) ∧ w = w' := by
  subst hx; exact rWord_s s w hs
theorem clean_k (s : ByteArray) (x : Bool) (w : World) (hs : s.size ≤ 1000000000) (hx : cleanB s = x) :
    Calls Tryz.prog 70 #[.string s] w fun e w' => e = .returned (.bool x) ∧ w = w' := by
  subst hx; exact clean_s s w hs
theorem rclean_k (s : ByteArray) (x : Bool) (w : World) (hs : s.size ≤ 1000000000) (hx : cleanB s = x) :
    Calls Tryz.prog 35 #[.string s] w fun e w' => e = .returned (.bool x) ∧ w = w' := by
  subst hx; exact rClean_s s w hs

/-! ### find -/
def idB (id : ByteArray) : Obj := .cells #[.string id] 9
set_option maxHeartbeats 2000000 in
theorem finds_k (bp : Nat) (id : ByteArray) (k : Ky) (r : Bool) (w : World) (h : KbC w bp (idB id)) (hr : decide (k.id = id) = r) :
    Calls Tryz.prog 67 #[kV k, .pointer (some ⟨bp, 0, none⟩)] w fun e w' => e = .returned (.bool r) ∧ Below w.heap.size w w' := by
  obtain ⟨i, s, sf, su, af, au⟩ := k
  dsimp only at hr
  have d1 : (i.toList == id.toList) = r := by rw [str_eq']; exact hr
  have HB := Lib.hid (box_below w (kB ⟨i, s, sf, su, af, au⟩))
  have c1 : (w.alloc (kB ⟨i, s, sf, su, af, au⟩)).cell? ⟨bp, 0, none⟩ = some (.string id) := (h.step (box_below _ _)).cell rfl
  have c0 : w.cell? ⟨bp, 0, none⟩ = some (.string id) := h.cell rfl
  have hlt := h.big
  unfold kV
  unfold kB kcells at *
  clear h hr
  go_enter Tryz.func67, Tryz.ntmps67
  go_wp2_with fail
  go_ret
  exact ⟨rfl, HB.out⟩
def ixK (id : ByteArray) : List Ky → Nat
  | [] => 0
  | x :: l => if x.id = id then 0 else ixK id l + 1
theorem ixK_eq {id : ByteArray} : ∀ {l : List Ky} {k : Nat} (h : k < l.length), (l[k]).id = id → (∀ j (hj : j < k), (l[j]).id ≠ id) → ixK id l = k ∧ fndK l id = some (l[k])
  | x :: l, 0, h, e, hn => by
    have e : x.id = id := e
    refine ⟨by unfold ixK; rw [if_pos e], ?_⟩
    unfold fndK
    rw [List.find?_cons, decide_eq_true e]; rfl
  | x :: l, k + 1, h, e, hn => by
    have h0 : x.id ≠ id := hn 0 (by omega)
    obtain ⟨h1, h2⟩ := ixK_eq (l := l) (k := k) (by simpa using h) e (fun j hj => hn (j + 1) (by omega))
    refine ⟨by unfold ixK; rw [if_neg h0, h1], ?_⟩
    unfold fndK at h2 ⊢
    rw [List.find?_cons, decide_eq_false h0]
    exact h2
/-- where the first key with an identifier stands, or -1 -/
def ixR (l : List Ky) (id : ByteArray) : Int := if hasI l id = true then (ixK id l : Int) else -1
theorem ixR_at {l : List Ky} {id : ByteArray} {k : Nat} (h : k < l.length) (e : (kA l k).id = id) (hn : ∀ j, j < k → (kA l j).id ≠ id) : ixR l id = (k : Int) ∧ hasI l id = true ∧ fndK l id = some (kA l k) := by
  have hh : hasI l id = true := hasI_iff.2 ⟨k, h, e⟩
  rw [k_get h] at e ⊢
  obtain ⟨h1, h2⟩ := ixK_eq h e (fun j hj => by have := hn j hj; rwa [k_get (by omega)] at this)
  exact ⟨by unfold ixR; rw [hh, if_pos rfl, h1], hh, h2⟩
theorem ixR_no {l : List Ky} {id : ByteArray} (hn : ∀ j, j < l.length → (kA l j).id ≠ id) : ixR l id = -1 ∧ hasI l id = false ∧ fndK l id = none := by
  have hh : hasI l id = false := by
    cases q : hasI l id
    · rfl
    · obtain ⟨j, hj, e⟩ := hasI_iff.1 q
      exact absurd e (hn j hj)
  refine ⟨by unfold ixR; rw [hh, if_neg (by decide)], hh, fnd_none fun k hk e => ?_⟩
  obtain ⟨j, hj, rfl⟩ := List.mem_iff_getElem.1 hk
  exact hn j hj (by rw [k_get hj]; exact e)
theorem ixR_cases (l : List Ky) (id : ByteArray) : (ixR l id = -1 ∧ hasI l id = false ∧ fndK l id = none) ∨ ∃ k, k < l.length ∧ ixR l id = (k : Int) ∧ hasI l id = true ∧ fndK l id = some (kA l k) := by
  by_cases h : ∃ j, j < l.length ∧ (kA l j).id = id
  · right
    have : ∃ k, (k < l.length ∧ (kA l k).id = id) ∧ ∀ j, j < k → ¬ (j < l.length ∧ (kA l j).id = id) := by
      obtain ⟨j, hj⟩ := h
      induction j using Nat.strongRecOn with
      | _ j ih =>
        by_cases q : ∃ i, i < j ∧ (i < l.length ∧ (kA l i).id = id)
        · obtain ⟨i, hi, h2⟩ := q; exact ih i hi h2
        · exact ⟨j, hj, fun i hi h2 => q ⟨i, hi, h2⟩⟩
    obtain ⟨k, ⟨h1, h2⟩, h3⟩ := this
    exact ⟨k, h1, ixR_at h1 h2 fun j hj e => h3 j hj ⟨by omega, e⟩⟩
  · left
    exact ixR_no fun j hj e => h ⟨j, hj, e⟩
/-- what a search keeps -/
structure FdI (w : World) (bp : Nat) (id : ByteArray) (V : World) : Prop where
  low : Below w.heap.size w V
  box : KbC V bp (idB id)
theorem FdI.step {w V X : World} {bp : Nat} {id : ByteArray} (h : FdI w bp id V) (hb : Below V.heap.size V X) : FdI w bp id X := ⟨h.low.trans (hb.mono h.low.size), h.box.step hb⟩
set_option maxHeartbeats 4000000 in
theorem indexFunc_k (ao : Option Addr) (n cap : Nat) (l : List Ky) (bp : Nat) (id : ByteArray) (r : Int) (w : World) (h : KsAt w ao n cap l) (hb : KbC w bp (idB id)) (hx : ixR l id = r) :
    Calls Tryz.prog 66 #[.slice ao n cap, .func (.func 67) #[] #[.pointer (some ⟨bp, 0, none⟩)]] w fun e w' => e = .returned (.int .i64 r) ∧ Below w.heap.size w w' := by
  have H := Lib.hid h
  obtain ⟨h1, h2, h3, _, _⟩ := h
  subst h1
  unfold maxLen at h3
  have HX := Lib.hid hx
  have HF := Lib.hid (show FdI w bp id w from ⟨Below.refl _ _, hb⟩)
  clear hx hb
  go_enter Tryz.func66, Tryz.ntmps66
  go_wp2_with fail
  go_loopw [8] (fun i wr => ∃ k : Nat, k ≤ l.length ∧ i = .int .i64 k ∧ Hid (∀ j, j < k → (kA l j).id ≠ id) ∧ Hid (FdI w bp id wr)) (fun i _ => l.length - (intOf i).toNat)
  case atStart => exact ⟨0, Nat.zero_le _, rfl, Lib.hid fun j hj => absurd hj (Nat.not_lt_zero _), HF⟩
  case round =>
    clear HF
    obtain ⟨k, hk, rfl, HN, HF⟩ := hrel
    by_cases hlt : k < l.length
    · obtain ⟨b, off, rfl, hs⟩ := H.out.2.2.2.1 (by omega)
      have hat := (hs.below HF.out.low hs.1).at_ hlt
      obtain ⟨g, hg⟩ : ∃ g, kA l k = g := ⟨_, rfl⟩
      rw [hg] at hat
      obtain ⟨c0, c1, c2, c3, c4, c5⟩ := hat
      clear hs
      by_cases e : g.id = id
      · have HE := Lib.hid (show r = (k : Int) by rw [← HX.out]; exact (ixR_at hlt (by rw [hg]; exact e) HN.out).1)
        have HD := Lib.hid (decide_eq_true e)
        clear e hg
        go_wp2_with fail
        refine (finds_k bp id g true _ HF.out.box HD.out).mono ?_
        rintro e w1 ⟨rfl, hb⟩
        have HF := Lib.hid (HF.out.step hb)
        clear hb c0 c1 c2 c3 c4 c5
        go_wp2_with fail
        go_ret
        exact ⟨by rw [HE.out]; rfl, HF.out.low⟩
      · have HN1 : Hid (∀ j, j < k + 1 → (kA l j).id ≠ id) := Lib.hid fun j hj => if q : j = k then by rw [q, hg]; exact e else HN.out j (by omega)
        have HD := Lib.hid (decide_eq_false e)
        clear e hg
        go_wp2_with fail
        refine (finds_k bp id g false _ HF.out.box HD.out).mono ?_
        rintro e w1 ⟨rfl, hb⟩
        have HF := Lib.hid (HF.out.step hb)
        clear hb c0 c1 c2 c3 c4 c5
        go_wp2_with fail
        go_roundw
        case rel => exact ⟨k + 1, by omega, by go_num, HN1, HF⟩
        case measure => simp [intOf]; omega
    · obtain rfl : k = l.length := by omega
      have HE := Lib.hid (show r = -1 by rw [← HX.out]; exact (ixR_no HN.out).1)
      go_wp2_with fail
      go_ret
      exact ⟨by rw [HE.out]; rfl, HF.out.low⟩
theorem KsAt.step {w V : World} {ao : Option Addr} {n cap : Nat} {l : List Ky} (h : KsAt w ao n cap l) (hb : Below w.heap.size w V) : KsAt V ao n cap l := h.below hb
set_option maxHeartbeats 2000000 in
theorem find_k (ao : Option Addr) (n cap : Nat) (l : List Ky) (id : ByteArray) (r : Int) (w : World) (h : KsAt w ao n cap l) (hx : ixR l id = r) :
    Calls Tryz.prog 41 #[.slice ao n cap, .string id] w fun e w' => e = .returned (.int .i64 r) ∧ Below w.heap.size w w' := by
  have HB := Lib.hid (box_below w (idB id))
  have HK := Lib.hid (kbc_new w (idB id))
  have H := Lib.hid (h.below HB.out)
  clear h
  unfold idB at HB HK H
  go_enter Tryz.func41, Tryz.ntmps41
  go_wp2_with fail
  refine (indexFunc_k ao n cap l w.heap.size id r _ H.out HK.out hx).mono ?_
  rintro e w1 ⟨rfl, hb⟩
  have HB := Lib.hid (HB.out.trans (hb.mono HB.out.size))
  clear hb
  go_wp2_with fail
  go_ret
  exact ⟨rfl, HB.out⟩
set_option maxHeartbeats 2000000 in
theorem checkNew_k (ao : Option Addr) (n cap : Nat) (l : List Ky) (id sec : ByteArray) (z : Int) (w : World) (h : KsAt w ao n cap l) (hi : id.size ≤ 1000000000) (hs : sec.size ≤ 1000000000) (hz : nwE l id sec = z) :
    Calls Tryz.prog 45 #[.slice ao n cap, .string id, .string sec] w fun e w' => e = .returned (.int .i64 z) ∧ Below w.heap.size w w' := by
  unfold nwE at hz
  cases h1 : wordB id
  · rw [h1, if_pos rfl] at hz
    subst hz
    go_enter Tryz.func45, Tryz.ntmps45
    go_wp2_with fail
    refine (word_k id false _ hi h1).mono ?_
    rintro e w' ⟨rfl, rfl⟩
    go_wp2_with fail
    go_ret
    exact ⟨rfl, Below.refl _ _⟩
  · rw [h1, if_neg (by decide)] at hz
    cases h2 : cleanB sec
    · rw [h2, if_pos rfl] at hz
      subst hz
      go_enter Tryz.func45, Tryz.ntmps45
      go_wp2_with fail
      refine (word_k id true _ hi h1).mono ?_
      rintro e w' ⟨rfl, rfl⟩
      go_wp2_with fail
      refine (clean_k sec false _ hs h2).mono ?_
      rintro e w' ⟨rfl, rfl⟩
      go_wp2_with fail
      go_ret
      exact ⟨rfl, Below.refl _ _⟩
    · rw [h2, if_neg (by decide)] at hz
      obtain ⟨x, hx⟩ : ∃ x, ixR l id = x := ⟨_, rfl⟩
      have hc : (x = -1 ∧ z = 0) ∨ (0 ≤ x ∧ z = 7) := by
        rcases ixR_cases l id with ⟨q1, q2, _⟩ | ⟨k, q0, q1, q2, _⟩
        · left; rw [q2, if_neg (by decide)] at hz; exact ⟨by rw [← hx]; exact q1, hz.symm⟩
        · right; rw [q2, if_pos rfl] at hz; exact ⟨by rw [← hx, q1]; omega, hz.symm⟩
      clear hz
      rcases hc with ⟨rfl, rfl⟩ | ⟨hx0, rfl⟩
      · go_enter Tryz.func45, Tryz.ntmps45
        go_wp2_with fail
        refine (word_k id true _ hi h1).mono ?_
        rintro e w' ⟨rfl, rfl⟩
        go_wp2_with fail
        refine (clean_k sec true _ hs h2).mono ?_
        rintro e w' ⟨rfl, rfl⟩
        go_wp2_with fail
        refine (find_k ao n cap l id (-1) _ h hx).mono ?_
        rintro e w1 ⟨rfl, hb⟩
        go_wp2_with fail
        go_ret
        exact ⟨rfl, hb⟩
      · have d1 : decide (0 ≤ x) = true := decide_eq_true hx0
        go_enter Tryz.func45, Tryz.ntmps45
        go_wp2_with fail
        refine (word_k id true _ hi h1).mono ?_
        rintro e w' ⟨rfl, rfl⟩
        go_wp2_with fail
        refine (clean_k sec true _ hs h2).mono ?_
        rintro e w' ⟨rfl, rfl⟩
        go_wp2_with fail
        refine (find_k ao n cap l id x _ h hx).mono ?_
        rintro e w1 ⟨rfl, hb⟩
        go_wp2_with fail
        go_ret
        exact ⟨rfl, hb⟩
end Go.Proofs.YtgepcbggkfjlgaaGreatDoor
end

section
/-
  Contracts of slices.IsSorted at ints, keys' ordered, checkNext and Check, and of the specification's windows. Condition: strings of at most 1000000000 bytes.
-/
set_option maxRecDepth 100000
set_option linter.unusedVariables false
set_option linter.unusedSimpArgs false
set_option linter.unnecessarySimpa false
namespace Go.Proofs.YtgepcbggkfjlgaaGreatDoor
open Go.RowKit Go.PlainAid

theorem nan_k (x : Int) (w : World) : Calls Tryz.prog 89 #[.int .i64 x] w fun e w' => e = .returned (.bool false) ∧ w = w' := by
  have d1 : (x != x) = false := bne_self_eq_false _
  go_enter Tryz.func89, Tryz.ntmps89
  go_wp2_with fail
  go_ret
  exact ⟨rfl, rfl⟩
theorem less_k (x y : Int) (r : Bool) (w : World) (hr : decide (x < y) = r) : Calls Tryz.prog 108 #[.int .i64 x, .int .i64 y] w fun e w' => e = .returned (.bool r) ∧ w = w' := by
  go_enter Tryz.func108, Tryz.ntmps108
  go_wp2_with fail
  refine (nan_k x _).mono ?_
  rintro e w' ⟨rfl, rfl⟩
  go_wp2_with fail
  go_ret
  exact ⟨by rw [← hr]; rfl, rfl⟩
def iA (l : List Int) (j : Nat) : Int := l.getD j 0
/-- ascending from k on -/
def srtF (l : List Int) (k : Nat) : Prop := ∀ j, k ≤ j → j + 1 < l.length → iA l j ≤ iA l (j + 1)
set_option maxHeartbeats 4000000 in
theorem sorted_k (b : Nat) (l : List Int) (n : Nat) (r : Bool) (w : World) (hn : l.length = n + 1) (hn2 : n ≤ 1000) (hk : KbC w b (.cells (l.map fun x => Value.int .i64 x).toArray 3)) (hr : r = true ↔ srtF l 0) :
    Calls Tryz.prog 88 #[.slice (some ⟨b, 0, none⟩) (n + 1) (n + 1)] w fun e w' => e = .returned (.bool r) ∧ Below w.heap.size w w' := by
  have HC : Hid (∀ V, Below w.heap.size w V → ∀ j, j < n + 1 → V.cell? ⟨b, j, none⟩ = some (.int .i64 (iA l j))) := Lib.hid fun V hV j hj => by
    refine (hk.step hV).cell ?_
    rw [← Array.getElem?_toList]
    show (l.map _)[j]? = _
    rw [List.getElem?_map, List.getElem?_eq_getElem (by omega)]
    unfold iA; rw [List.getD_eq_getElem?_getD, List.getElem?_eq_getElem (by omega)]; rfl
  have HR := Lib.hid hr
  have HB := Lib.hid (Below.refl w.heap.size w)
  have HN := Lib.hid hn
  clear hk hr hn
  go_enter Tryz.func88, Tryz.ntmps88
  go_wp2_with fail
  go_loopw [3] (fun iv wr => ∃ k : Nat, k ≤ n ∧ iv = .int .i64 k ∧ Hid (srtF l k) ∧ Hid (Below w.heap.size w wr)) (fun iv _ => (intOf iv).toNat)
  case atStart => exact ⟨n, Nat.le_refl _, by first | rfl | go_num, Lib.hid fun j h1 h2 => absurd h2 (by rw [HN.out]; omega), HB⟩
  case round =>
    clear HB
    obtain ⟨k, hkn, rfl, HS, HB⟩ := hrel
    cases k with
    | zero =>
      have HE := Lib.hid (show r = true from HR.out.2 HS.out)
      go_wp2_with fail
      go_ret
      exact ⟨by rw [HE.out]; rfl, HB.out⟩
    | succ m =>
      have dm : (0 : Int) < (m : Int) + 1 := by omega
      have w1 : IntKind.i64.wrap (m : Int) = (m : Int) := IntWalk.i64_in _ (by omega)
      obtain ⟨x, hx⟩ : ∃ x, iA l (m + 1) = x := ⟨_, rfl⟩
      obtain ⟨y, hy⟩ : ∃ y, iA l m = y := ⟨_, rfl⟩
      have HB := Lib.hid (HB.out.trans ((Below.refl _ _).drew.mono HB.out.size))
      have HSt : Hid (∀ V, Below w.heap.size w V → V.cell? ⟨b, m + 1, none⟩ = some (.int .i64 x) ∧ V.cell? ⟨b, m, none⟩ = some (.int .i64 y) ∧ Hid (Below w.heap.size w V)) := Lib.hid fun V hV => ⟨by rw [← hx]; exact HC.out V hV (m + 1) (by omega), by rw [← hy]; exact HC.out V hV m (by omega), Lib.hid hV⟩
      have S0 := HSt.out _ HB.out
      have mn : m < n + 1 := by omega
      have mn1 : m + 1 < n + 1 := by omega
      have i1 : (m : Int) < (n : Int) + 1 := by omega
      have i2 : (m : Int) + 1 < (n : Int) + 1 := by omega
      have i3 : (0 : Int) ≤ (m : Int) + 1 := by omega
      by_cases hlt : x < y
      · have HD := Lib.hid (decide_eq_true hlt)
        have HE := Lib.hid (show r = false by
          cases hr : r
          · rfl
          · have := HR.out.1 hr m (Nat.zero_le _) (by rw [HN.out]; omega)
            rw [hx, hy] at this; omega)
        clear hlt hx hy
        go_wp2_with fail
        refine wp_region_held_drew (S := fun V => V.cell? ⟨b, m + 1, none⟩ = some (.int .i64 x) ∧ V.cell? ⟨b, m, none⟩ = some (.int .i64 y) ∧ Hid (Below w.heap.size w V)) (by kernel_rfl) (S0) (fun hS => ?_)
        refine wpAnyH_take (i := 0) (oi := { dst := some 11, op := _, type := _, pos := _, after := _, guard := _ }) (v := ?_) rfl (by kernel_rfl) (by kernel_rfl) (by kernel_rfl) (fun _ _ _ h => h) (Or.inl ⟨by rfl, ?_⟩) (by assumption) ?_
        rotate_left
        · intro w hSw
          try dsimp only at hSw
          go_simp
          try with_reducible rfl
        try simp only [Act.put, List.setIfInBounds_toArray, List.set_cons_zero, List.set_cons_succ]
        refine wpAnyH_take (i := 1) (oi := { dst := some 12, op := _, type := _, pos := _, after := _, guard := _ }) (v := ?_) rfl (by kernel_rfl) (by kernel_rfl) (by kernel_rfl) (fun _ _ _ h => h) (Or.inl ⟨by rfl, ?_⟩) (by assumption) ?_
        rotate_left
        · intro w hSw
          try dsimp only at hSw
          go_simp
          try with_reducible rfl
        try simp only [Act.put, List.setIfInBounds_toArray, List.set_cons_zero, List.set_cons_succ]
        refine wpAnyH_take (i := 2) (oi := { dst := some 13, op := _, type := _, pos := _, after := _, guard := _ }) (v := ?_) rfl (by kernel_rfl) (by kernel_rfl) (by kernel_rfl) (fun _ _ _ h => h) (Or.inl ⟨by rfl, ?_⟩) (by assumption) ?_
        rotate_left
        · intro w hSw
          try dsimp only at hSw
          go_simp
          try with_reducible rfl
        try simp only [Act.put, List.setIfInBounds_toArray, List.set_cons_zero, List.set_cons_succ]
        refine wpAnyH_take (i := 3) (oi := { dst := some 14, op := _, type := _, pos := _, after := _, guard := _ }) (v := ?_) rfl (by kernel_rfl) (by kernel_rfl) (by kernel_rfl) (fun _ _ _ h => h) (Or.inl ⟨by rfl, ?_⟩) (by assumption) ?_
        rotate_left
        · intro w hSw
          try dsimp only at hSw
          go_simp
          try with_reducible rfl
        try simp only [Act.put, List.setIfInBounds_toArray, List.set_cons_zero, List.set_cons_succ]
        refine wpAnyH_take (i := 4) (oi := { dst := some 15, op := _, type := _, pos := _, after := _, guard := _ }) (v := ?_) rfl (by kernel_rfl) (by kernel_rfl) (by kernel_rfl) (fun _ _ _ h => h) (Or.inl ⟨by rfl, ?_⟩) (by assumption) ?_
        rotate_left
        · intro w hSw
          try dsimp only at hSw
          go_simp
          try with_reducible rfl
        try simp only [Act.put, List.setIfInBounds_toArray, List.set_cons_zero, List.set_cons_succ]
        refine wpAnyH_take (i := 5) (oi := { dst := some 16, op := _, type := _, pos := _, after := _, guard := _ }) (v := ?_) rfl (by kernel_rfl) (by kernel_rfl) (by kernel_rfl) (fun _ _ _ h => h) (Or.inl ⟨by rfl, ?_⟩) (by assumption) ?_
        rotate_left
        · intro w hSw
          try dsimp only at hSw
          go_simp
          try with_reducible rfl
        try simp only [Act.put, List.setIfInBounds_toArray, List.set_cons_zero, List.set_cons_succ]
        refine wpAnyH_take (i := 6) (oi := { dst := some 17, op := _, type := _, pos := _, after := _, guard := _ }) (v := ?_) rfl (by kernel_rfl) (by kernel_rfl) (by kernel_rfl) (fun _ _ _ h => h) (Or.inl ⟨by rfl, ?_⟩) (by assumption) ?_
        rotate_left
        · intro w hSw
          try dsimp only at hSw
          go_simp
          try with_reducible rfl
        try simp only [Act.put, List.setIfInBounds_toArray, List.set_cons_zero, List.set_cons_succ]
        refine wpAnyH_take (i := 7) (oi := { dst := some 18, op := _, type := _, pos := _, after := _, guard := _ }) (v := ?_) rfl (by kernel_rfl) (by kernel_rfl) (by kernel_rfl) (fun _ _ _ h => h) (Or.inl ⟨by rfl, ?_⟩) (by assumption) ?_
        rotate_left
        · intro w hSw
          try dsimp only at hSw
          go_simp
          try with_reducible rfl
        try simp only [Act.put, List.setIfInBounds_toArray, List.set_cons_zero, List.set_cons_succ]
        refine wpAnyH_take (i := 8) (oi := { dst := some 19, op := _, type := _, pos := _, after := _, guard := _ }) (v := ?_) rfl (by kernel_rfl) (by kernel_rfl) (by kernel_rfl) (fun _ _ _ h => h) (Or.inl ⟨by rfl, ?_⟩) (by assumption) ?_
        rotate_left
        · intro w hSw
          try dsimp only at hSw
          go_simp
          try with_reducible rfl
        try simp only [Act.put, List.setIfInBounds_toArray, List.set_cons_zero, List.set_cons_succ]
        refine wpAnyH_ready (rs := [9]) (by kernel_rfl) (by simp) ?_
        refine AllReadyH.cons rfl (fun K hK => ?_) AllReadyH.nil
        go_simp
        refine (less_k x y true _ HD.out).mono ?_
        rintro e w' ⟨rfl, rfl⟩
        go_wp2_with fail
        refine hK.out _ _ ?_ (fun hHeld => ?_)
        · exact HSt.out _ HB.out
        clear hK K
        try simp only [Act.put, List.setIfInBounds_toArray, List.set_cons_zero, List.set_cons_succ]
        refine wpAnyH_done (by kernel_rfl) ?_ _
        go_wp2_with fail
        go_ret
        exact ⟨by rw [HE.out]; rfl, HB.out⟩
      · have HD := Lib.hid (decide_eq_false hlt)
        have HS1 : Hid (srtF l m) := Lib.hid fun j h1 h2 => if q : j = m then by rw [q, hx, hy]; omega else HS.out j (by omega) h2
        clear hlt hx hy
        go_wp2_with fail
        refine wp_region_held_drew (S := fun V => V.cell? ⟨b, m + 1, none⟩ = some (.int .i64 x) ∧ V.cell? ⟨b, m, none⟩ = some (.int .i64 y) ∧ Hid (Below w.heap.size w V)) (by kernel_rfl) (S0) (fun hS => ?_)
        refine wpAnyH_take (i := 0) (oi := { dst := some 11, op := _, type := _, pos := _, after := _, guard := _ }) (v := ?_) rfl (by kernel_rfl) (by kernel_rfl) (by kernel_rfl) (fun _ _ _ h => h) (Or.inl ⟨by rfl, ?_⟩) (by assumption) ?_
        rotate_left
        · intro w hSw
          try dsimp only at hSw
          go_simp
          try with_reducible rfl
        try simp only [Act.put, List.setIfInBounds_toArray, List.set_cons_zero, List.set_cons_succ]
        refine wpAnyH_take (i := 1) (oi := { dst := some 12, op := _, type := _, pos := _, after := _, guard := _ }) (v := ?_) rfl (by kernel_rfl) (by kernel_rfl) (by kernel_rfl) (fun _ _ _ h => h) (Or.inl ⟨by rfl, ?_⟩) (by assumption) ?_
        rotate_left
        · intro w hSw
          try dsimp only at hSw
          go_simp
          try with_reducible rfl
        try simp only [Act.put, List.setIfInBounds_toArray, List.set_cons_zero, List.set_cons_succ]
        refine wpAnyH_take (i := 2) (oi := { dst := some 13, op := _, type := _, pos := _, after := _, guard := _ }) (v := ?_) rfl (by kernel_rfl) (by kernel_rfl) (by kernel_rfl) (fun _ _ _ h => h) (Or.inl ⟨by rfl, ?_⟩) (by assumption) ?_
        rotate_left
        · intro w hSw
          try dsimp only at hSw
          go_simp
          try with_reducible rfl
        try simp only [Act.put, List.setIfInBounds_toArray, List.set_cons_zero, List.set_cons_succ]
        refine wpAnyH_take (i := 3) (oi := { dst := some 14, op := _, type := _, pos := _, after := _, guard := _ }) (v := ?_) rfl (by kernel_rfl) (by kernel_rfl) (by kernel_rfl) (fun _ _ _ h => h) (Or.inl ⟨by rfl, ?_⟩) (by assumption) ?_
        rotate_left
        · intro w hSw
          try dsimp only at hSw
          go_simp
          try with_reducible rfl
        try simp only [Act.put, List.setIfInBounds_toArray, List.set_cons_zero, List.set_cons_succ]
        refine wpAnyH_take (i := 4) (oi := { dst := some 15, op := _, type := _, pos := _, after := _, guard := _ }) (v := ?_) rfl (by kernel_rfl) (by kernel_rfl) (by kernel_rfl) (fun _ _ _ h => h) (Or.inl ⟨by rfl, ?_⟩) (by assumption) ?_
        rotate_left
        · intro w hSw
          try dsimp only at hSw
          go_simp
          try with_reducible rfl
        try simp only [Act.put, List.setIfInBounds_toArray, List.set_cons_zero, List.set_cons_succ]
        refine wpAnyH_take (i := 5) (oi := { dst := some 16, op := _, type := _, pos := _, after := _, guard := _ }) (v := ?_) rfl (by kernel_rfl) (by kernel_rfl) (by kernel_rfl) (fun _ _ _ h => h) (Or.inl ⟨by rfl, ?_⟩) (by assumption) ?_
        rotate_left
        · intro w hSw
          try dsimp only at hSw
          go_simp
          try with_reducible rfl
        try simp only [Act.put, List.setIfInBounds_toArray, List.set_cons_zero, List.set_cons_succ]
        refine wpAnyH_take (i := 6) (oi := { dst := some 17, op := _, type := _, pos := _, after := _, guard := _ }) (v := ?_) rfl (by kernel_rfl) (by kernel_rfl) (by kernel_rfl) (fun _ _ _ h => h) (Or.inl ⟨by rfl, ?_⟩) (by assumption) ?_
        rotate_left
        · intro w hSw
          try dsimp only at hSw
          go_simp
          try with_reducible rfl
        try simp only [Act.put, List.setIfInBounds_toArray, List.set_cons_zero, List.set_cons_succ]
        refine wpAnyH_take (i := 7) (oi := { dst := some 18, op := _, type := _, pos := _, after := _, guard := _ }) (v := ?_) rfl (by kernel_rfl) (by kernel_rfl) (by kernel_rfl) (fun _ _ _ h => h) (Or.inl ⟨by rfl, ?_⟩) (by assumption) ?_
        rotate_left
        · intro w hSw
          try dsimp only at hSw
          go_simp
          try with_reducible rfl
        try simp only [Act.put, List.setIfInBounds_toArray, List.set_cons_zero, List.set_cons_succ]
        refine wpAnyH_take (i := 8) (oi := { dst := some 19, op := _, type := _, pos := _, after := _, guard := _ }) (v := ?_) rfl (by kernel_rfl) (by kernel_rfl) (by kernel_rfl) (fun _ _ _ h => h) (Or.inl ⟨by rfl, ?_⟩) (by assumption) ?_
        rotate_left
        · intro w hSw
          try dsimp only at hSw
          go_simp
          try with_reducible rfl
        try simp only [Act.put, List.setIfInBounds_toArray, List.set_cons_zero, List.set_cons_succ]
        refine wpAnyH_ready (rs := [9]) (by kernel_rfl) (by simp) ?_
        refine AllReadyH.cons rfl (fun K hK => ?_) AllReadyH.nil
        go_simp
        refine (less_k x y false _ HD.out).mono ?_
        rintro e w' ⟨rfl, rfl⟩
        go_wp2_with fail
        refine hK.out _ _ ?_ (fun hHeld => ?_)
        · exact HSt.out _ HB.out
        clear hK K
        try simp only [Act.put, List.setIfInBounds_toArray, List.set_cons_zero, List.set_cons_succ]
        refine wpAnyH_done (by kernel_rfl) ?_ _
        go_wp2_with fail
        go_roundw
        case rel => exact ⟨m, by omega, by go_num, HS1, HB⟩
        case measure => first | (simp [intOf]; done) | (simp [intOf]; omega)
/-! ### ordered, checkNext, Check -/
def ordB (k : Ky) : Bool := decide (0 ≤ k.af) && decide (k.af ≤ k.sf) && decide (k.sf ≤ k.su) && decide (k.su ≤ k.au) && decide (k.au ≤ 1099511627776)
theorem winB_ord (k : Ky) : winB k = (ordB k && decide (k.af < k.au)) := rfl
theorem ord_srt (k : Ky) : ordB k = true ↔ srtF [0, k.af, k.sf, k.su, k.au, 1099511627776] 0 := by
  unfold ordB srtF
  simp only [Bool.and_eq_true, decide_eq_true_eq]
  constructor
  · rintro ⟨⟨⟨⟨h1, h2⟩, h3⟩, h4⟩, h5⟩ j _ hj
    match j, hj with
    | 0, _ => exact h1
    | 1, _ => exact h2
    | 2, _ => exact h3
    | 3, _ => exact h4
    | 4, _ => exact h5
    | j + 5, hj => exact absurd hj (by simp only [List.length_cons, List.length_nil]; omega)
  · intro h
    exact ⟨⟨⟨⟨h 0 (by omega) (by show 1 < 6; decide), h 1 (by omega) (by show 2 < 6; decide)⟩, h 2 (by omega) (by show 3 < 6; decide)⟩, h 3 (by omega) (by show 4 < 6; decide)⟩, h 4 (by omega) (by show 5 < 6; decide)⟩
set_option maxHeartbeats 2000000 in
theorem ordered_k (k : Ky) (r : Bool) (w : World) (hr : ordB k = r) :
    Calls Tryz.prog 59 #[kV k] w fun e w' => e = .returned (.bool r) ∧ Below w.heap.size w w' := by
  obtain ⟨i, s, sf, su, af, au⟩ := k
  have HR := Lib.hid (show r = true ↔ srtF [0, af, sf, su, au, 1099511627776] 0 by rw [← hr]; exact ord_srt _)
  have HB := Lib.hid ((box_below w (kB ⟨i, s, sf, su, af, au⟩)).trans ((box_below _ (.cells #[.int .i64 0, .int .i64 af, .int .i64 sf, .int .i64 su, .int .i64 au, .int .i64 1099511627776] 3)).mono (box_below w (kB ⟨i, s, sf, su, af, au⟩)).size))
  have HK := Lib.hid (kbc_new (w.alloc (kB ⟨i, s, sf, su, af, au⟩)) (.cells #[.int .i64 0, .int .i64 af, .int .i64 sf, .int .i64 su, .int .i64 au, .int .i64 1099511627776] 3))
  rw [World.size_alloc] at HK
  unfold kV
  unfold kB kcells at *
  clear hr
  go_enter Tryz.func59, Tryz.ntmps59
  go_wp2_with fail
  refine (sorted_k (w.heap.size + 1) [0, af, sf, su, au, 1099511627776] 5 r _ rfl (by decide) HK.out HR.out).mono ?_
  rintro e w1 ⟨rfl, hb⟩
  have HB := Lib.hid (HB.out.trans (hb.mono HB.out.size))
  clear hb
  go_wp2_with fail
  go_ret
  exact ⟨rfl, HB.out⟩
/-- strings of a key that a string holds -/
def SmK (k : Ky) : Prop := k.id.size ≤ 1000000000 ∧ k.sec.size ≤ 1000000000
set_option maxHeartbeats 4000000 in
theorem checkNext_k (ao : Option Addr) (n cap : Nat) (l : List Ky) (k : Ky) (z : Int) (w : World) (h : KsAt w ao n cap l) (hs : SmK k) (hz : nxE l k = z) :
    Calls Tryz.prog 33 #[.slice ao n cap, kV k] w fun e w' => e = .returned (.int .i64 z) ∧ Below w.heap.size w w' := by
  obtain ⟨i, s, sf, su, af, au⟩ := k
  obtain ⟨hs1, hs2⟩ := hs
  dsimp only at hs1 hs2
  have HB := Lib.hid (box_below w (kB ⟨i, s, sf, su, af, au⟩))
  have HK := Lib.hid (kbc_new w (kB ⟨i, s, sf, su, af, au⟩))
  have H := Lib.hid (h.below HB.out)
  unfold nxE at hz
  dsimp only at hz
  obtain ⟨q, hq⟩ : ∃ q, nwE l i s = q := ⟨_, rfl⟩
  rw [hq] at hz
  have HQ := Lib.hid hq
  obtain ⟨o, ho⟩ : ∃ o, ordB ⟨i, s, sf, su, af, au⟩ = o := ⟨_, rfl⟩
  have hwin := winB_ord ⟨i, s, sf, su, af, au⟩
  rw [ho] at hwin
  dsimp only at hwin
  have HO := Lib.hid ho
  unfold kV
  unfold kB kcells at HB HK H
  unfold kcells
  by_cases h0 : q = 0
  · subst h0
    rw [if_neg (by decide), hwin] at hz
    clear hq ho hwin h
    cases o with
    | false =>
      rw [Bool.false_and, if_neg (by decide)] at hz
      subst hz
      go_enter Tryz.func33, Tryz.ntmps33
      go_wp2_with fail
      refine (checkNew_k ao n cap l i s 0 _ H.out hs1 hs2 HQ.out).mono ?_
      rintro e w1 ⟨rfl, hb⟩
      have HB := Lib.hid (HB.out.trans (hb.mono HB.out.size))
      have HK := Lib.hid (HK.out.step hb)
      clear hb
      have c0 := HK.out.cell (i := 0) rfl
      have c1 := HK.out.cell (i := 1) rfl
      have c2 := HK.out.cell (i := 2) rfl
      have c3 := HK.out.cell (i := 3) rfl
      have c4 := HK.out.cell (i := 4) rfl
      have c5 := HK.out.cell (i := 5) rfl
      go_wp2_with fail
      refine (ordered_k ⟨i, s, sf, su, af, au⟩ false _ HO.out).mono ?_
      rintro e w2 ⟨rfl, hb⟩
      have HB := Lib.hid (HB.out.trans (hb.mono HB.out.size))
      clear hb c0 c1 c2 c3 c4 c5
      go_wp2_with fail
      go_ret
      exact ⟨rfl, HB.out⟩
    | true =>
      rw [Bool.true_and] at hz
      have hz2 : (af < au ∧ z = 0) ∨ (¬ af < au ∧ z = 2) := by
        by_cases q : af < au
        · rw [decide_eq_true q, if_pos rfl] at hz; exact .inl ⟨q, hz.symm⟩
        · rw [decide_eq_false q, if_neg (by decide)] at hz; exact .inr ⟨q, hz.symm⟩
      clear hz
      rcases hz2 with ⟨g, rfl⟩ | ⟨g, rfl⟩
      · have d1 : decide (au ≤ af) = false := decide_eq_false (by omega)
        go_enter Tryz.func33, Tryz.ntmps33
        go_wp2_with fail
        refine (checkNew_k ao n cap l i s 0 _ H.out hs1 hs2 HQ.out).mono ?_
        rintro e w1 ⟨rfl, hb⟩
        have HB := Lib.hid (HB.out.trans (hb.mono HB.out.size))
        have HK := Lib.hid (HK.out.step hb)
        clear hb
        have c0 := HK.out.cell (i := 0) rfl
        have c1 := HK.out.cell (i := 1) rfl
        have c2 := HK.out.cell (i := 2) rfl
        have c3 := HK.out.cell (i := 3) rfl
        have c4 := HK.out.cell (i := 4) rfl
        have c5 := HK.out.cell (i := 5) rfl
        go_wp2_with fail
        refine (ordered_k ⟨i, s, sf, su, af, au⟩ true _ HO.out).mono ?_
        rintro e w2 ⟨rfl, hb⟩
        have HB := Lib.hid (HB.out.trans (hb.mono HB.out.size))
        have HK := Lib.hid (HK.out.step hb)
        clear hb c0 c1 c2 c3 c4 c5
        have c4 := HK.out.cell (i := 4) rfl
        have c5 := HK.out.cell (i := 5) rfl
        go_wp2_with fail
        go_ret
        exact ⟨rfl, HB.out⟩
      · have d1 : decide (au ≤ af) = true := decide_eq_true (by omega)
        go_enter Tryz.func33, Tryz.ntmps33
        go_wp2_with fail
        refine (checkNew_k ao n cap l i s 0 _ H.out hs1 hs2 HQ.out).mono ?_
        rintro e w1 ⟨rfl, hb⟩
        have HB := Lib.hid (HB.out.trans (hb.mono HB.out.size))
        have HK := Lib.hid (HK.out.step hb)
        clear hb
        have c0 := HK.out.cell (i := 0) rfl
        have c1 := HK.out.cell (i := 1) rfl
        have c2 := HK.out.cell (i := 2) rfl
        have c3 := HK.out.cell (i := 3) rfl
        have c4 := HK.out.cell (i := 4) rfl
        have c5 := HK.out.cell (i := 5) rfl
        go_wp2_with fail
        refine (ordered_k ⟨i, s, sf, su, af, au⟩ true _ HO.out).mono ?_
        rintro e w2 ⟨rfl, hb⟩
        have HB := Lib.hid (HB.out.trans (hb.mono HB.out.size))
        have HK := Lib.hid (HK.out.step hb)
        clear hb c0 c1 c2 c3 c4 c5
        have c4 := HK.out.cell (i := 4) rfl
        have c5 := HK.out.cell (i := 5) rfl
        go_wp2_with fail
        go_ret
        exact ⟨rfl, HB.out⟩
  · rw [if_pos h0] at hz
    subst hz
    have d1 : (q != 0) = true := bne_iff_ne.2 h0
    clear hq ho hwin h
    go_enter Tryz.func33, Tryz.ntmps33
    go_wp2_with fail
    refine (checkNew_k ao n cap l i s q _ H.out hs1 hs2 HQ.out).mono ?_
    rintro e w1 ⟨rfl, hb⟩
    have HB := Lib.hid (HB.out.trans (hb.mono HB.out.size))
    clear hb
    go_wp2_with fail
    go_ret
    exact ⟨rfl, HB.out⟩
/-- the cells of a key's box -/
theorem kb_cells {W : World} {b : Nat} {g : Ky} (h : KbC W b (kB g)) : W.cell? ⟨b, 0, none⟩ = some (.string g.id) ∧ W.cell? ⟨b, 1, none⟩ = some (.string g.sec) ∧ W.cell? ⟨b, 2, none⟩ = some (.int .i64 g.sf) ∧ W.cell? ⟨b, 3, none⟩ = some (.int .i64 g.su) ∧ W.cell? ⟨b, 4, none⟩ = some (.int .i64 g.af) ∧ W.cell? ⟨b, 5, none⟩ = some (.int .i64 g.au) :=
  ⟨h.cell rfl, h.cell rfl, h.cell rfl, h.cell rfl, h.cell rfl, h.cell rfl⟩
theorem ks_take {w : World} {b off n cap : Nat} {l : List Ky} (h : KsAt w (some ⟨b, off, none⟩) n cap l) {i : Nat} (hi : i ≤ n) : KsAt w (some ⟨b, off, none⟩) i cap (l.take i) := by
  obtain ⟨h1, h2, h3, h4, h5⟩ := h
  refine ⟨by rw [List.length_take]; omega, by omega, h3, fun hn => ?_, fun e => by cases e⟩
  obtain ⟨b', off', e, hs⟩ := h4 (by omega)
  cases e
  refine ⟨b, off, rfl, hs.1, fun j hj k hk => ?_⟩
  rw [List.length_take] at hj
  rw [hs.2 j (by omega) k hk, k_get (show j < l.length by omega), k_get (show j < (l.take i).length by rw [List.length_take]; omega), List.getElem_take]
set_option maxHeartbeats 8000000 in
theorem check_k (ao : Option Addr) (n cap : Nat) (l : List Ky) (z : Int) (w : World) (h : KsAt w ao n cap l) (hs : ∀ k ∈ l, SmK k) (hz : chkK l = z) :
    Calls Tryz.prog 12 #[.slice ao n cap] w fun e w' => e = .returned (.int .i64 z) ∧ Below w.heap.size w w' := by
  have H := Lib.hid h
  obtain ⟨h1, h2, h3, _, _⟩ := h
  subst h1
  unfold maxLen at h3
  have HS := Lib.hid hs
  clear hs
  unfold chkK at hz
  by_cases h16 : 16 < l.length
  · rw [if_pos h16] at hz
    subst hz
    have d1 : (16 : Int) < (l.length : Int) := by omega
    go_enter Tryz.func12, Tryz.ntmps12
    go_wp2_with fail
    go_ret
    exact ⟨rfl, Below.refl _ _⟩
  · rw [if_neg h16] at hz
    have d1 : ¬ (16 : Int) < (l.length : Int) := by omega
    have HZ := Lib.hid hz
    clear hz
    go_enter Tryz.func12, Tryz.ntmps12
    go_wp2_with fail
    go_loopw [11] (fun iv wr => ∃ k : Nat, k ≤ l.length ∧ iv = .int .i64 k ∧ Hid (firE (errK l) k = 0) ∧ Hid (Below w.heap.size w wr)) (fun iv _ => l.length - (intOf iv).toNat)
    case atStart => exact ⟨0, Nat.zero_le _, rfl, Lib.hid rfl, Lib.hid (Below.refl _ _)⟩
    case round =>
      obtain ⟨k, hk, rfl, HE, HB⟩ := hrel
      by_cases hlt : k < l.length
      · obtain ⟨b, off, rfl, hsl⟩ := H.out.2.2.2.1 (by omega)
        have hat := (hsl.below HB.out hsl.1).at_ hlt
        have hsm := HS.out _ (k_mem hlt)
        have herr : errK l k = nxE (l.take k) (kA l k) := rfl
        obtain ⟨g, hg⟩ : ∃ g, kA l k = g := ⟨_, rfl⟩
        rw [hg] at hat hsm herr
        obtain ⟨q, hq⟩ : ∃ q, nxE (l.take k) g = q := ⟨_, rfl⟩
        rw [hq] at herr
        obtain ⟨c0, c1, c2, c3, c4, c5⟩ := hat
        have HT := Lib.hid (ks_take H.out (i := k) (by omega))
        have HQ := Lib.hid hq
        have HErr := Lib.hid herr
        have HSm := Lib.hid hsm
        have kc1 : (k : Int) ≤ (cap : Int) := by omega
        have kc2 : (0 : Int) ≤ (k : Int) := by omega
        have HK := Lib.hid (kbc_new wr (kB g))
        have HB2 := Lib.hid (HB.out.trans ((box_below wr (kB g)).mono HB.out.size))
        have HSt : Hid (∀ V, Below (wr.alloc (kB g)).heap.size (wr.alloc (kB g)) V → (V.cell? ⟨wr.heap.size, 0, none⟩ = some (.string g.id) ∧ V.cell? ⟨wr.heap.size, 1, none⟩ = some (.string g.sec) ∧ V.cell? ⟨wr.heap.size, 2, none⟩ = some (.int .i64 g.sf) ∧ V.cell? ⟨wr.heap.size, 3, none⟩ = some (.int .i64 g.su) ∧ V.cell? ⟨wr.heap.size, 4, none⟩ = some (.int .i64 g.af) ∧ V.cell? ⟨wr.heap.size, 5, none⟩ = some (.int .i64 g.au)) ∧ Hid (Below w.heap.size w V)) := Lib.hid fun V hV => ⟨kb_cells (HK.out.step hV), Lib.hid (HB2.out.trans (hV.mono HB2.out.size))⟩
        unfold kB kcells at HSt HB2 HK
        clear hsl hg hq herr hsm
        go_wp2_with fail
        have HD := Lib.hid (Below.refl (wr.alloc (.cells #[.string g.id, .string g.sec, .int .i64 g.sf, .int .i64 g.su, .int .i64 g.af, .int .i64 g.au] 31)).heap.size (wr.alloc (.cells #[.string g.id, .string g.sec, .int .i64 g.sf, .int .i64 g.su, .int .i64 g.af, .int .i64 g.au] 31))).drew
        have S0 := HSt.out _ HD.out
        clear c0 c1 c2 c3 c4 c5
        by_cases hq0 : q = 0
        · subst hq0
          have HE1 := Lib.hid (firE_next HE.out HErr.out)
          refine wp_region_held_drew (S := fun V => (V.cell? ⟨wr.heap.size, 0, none⟩ = some (.string g.id) ∧ V.cell? ⟨wr.heap.size, 1, none⟩ = some (.string g.sec) ∧ V.cell? ⟨wr.heap.size, 2, none⟩ = some (.int .i64 g.sf) ∧ V.cell? ⟨wr.heap.size, 3, none⟩ = some (.int .i64 g.su) ∧ V.cell? ⟨wr.heap.size, 4, none⟩ = some (.int .i64 g.af) ∧ V.cell? ⟨wr.heap.size, 5, none⟩ = some (.int .i64 g.au)) ∧ Hid (Below w.heap.size w V)) (by kernel_rfl) (S0) (fun hS => ?_)
          refine wpAnyH_take (i := 0) (oi := { dst := some 16, op := _, type := _, pos := _, after := _, guard := _ }) (v := ?_) rfl (by kernel_rfl) (by kernel_rfl) (by kernel_rfl) (fun _ _ _ h => h) (Or.inl ⟨by rfl, ?_⟩) (by assumption) ?_
          rotate_left
          · intro w hSw
            try dsimp only at hSw
            go_simp
            try with_reducible rfl
          try simp only [Act.put, List.setIfInBounds_toArray, List.set_cons_zero, List.set_cons_succ]
          refine wpAnyH_take (i := 1) (oi := { dst := some 17, op := _, type := _, pos := _, after := _, guard := _ }) (v := ?_) rfl (by kernel_rfl) (by kernel_rfl) (by kernel_rfl) (fun _ _ _ h => h) (Or.inl ⟨by rfl, ?_⟩) (by assumption) ?_
          rotate_left
          · intro w hSw
            try dsimp only at hSw
            go_simp
            try with_reducible rfl
          try simp only [Act.put, List.setIfInBounds_toArray, List.set_cons_zero, List.set_cons_succ]
          refine wpAnyH_take (i := 2) (oi := { dst := some 18, op := _, type := _, pos := _, after := _, guard := _ }) (v := ?_) rfl (by kernel_rfl) (by kernel_rfl) (by kernel_rfl) (fun _ _ _ h => h) (Or.inl ⟨by rfl, ?_⟩) (by assumption) ?_
          rotate_left
          · intro w hSw
            try dsimp only at hSw
            go_simp
            try with_reducible rfl
          try simp only [Act.put, List.setIfInBounds_toArray, List.set_cons_zero, List.set_cons_succ]
          refine wpAnyH_take (i := 3) (oi := { dst := some 19, op := _, type := _, pos := _, after := _, guard := _ }) (v := ?_) rfl (by kernel_rfl) (by kernel_rfl) (by kernel_rfl) (fun _ _ _ h => h) (Or.inl ⟨by rfl, ?_⟩) (by assumption) ?_
          rotate_left
          · intro w hSw
            try dsimp only at hSw
            go_simp
            try with_reducible rfl
          try simp only [Act.put, List.setIfInBounds_toArray, List.set_cons_zero, List.set_cons_succ]
          refine wpAnyH_ready (rs := [4]) (by kernel_rfl) (by simp) ?_
          refine AllReadyH.cons rfl (fun K hK => ?_) AllReadyH.nil
          go_simp
          refine (checkNext_k _ k cap (l.take k) g 0 _ (HT.out.below (HB2.out.trans (HD.out.mono HB2.out.size))) HSm.out HQ.out).mono ?_
          rintro e w1 ⟨rfl, hb⟩
          have HB3 := Lib.hid ((HB2.out.trans (HD.out.mono HB2.out.size)).trans (hb.mono (HB2.out.trans (HD.out.mono HB2.out.size)).size))
          have HD := Lib.hid (HD.out.trans (hb.mono HD.out.size))
          clear hb
          go_wp2_with fail
          refine hK.out _ _ ?_ (fun hHeld => ?_)
          · exact HSt.out _ HD.out
          clear hK K
          try simp only [Act.put, List.setIfInBounds_toArray, List.set_cons_zero, List.set_cons_succ]
          refine wpAnyH_take (i := 5) (oi := { dst := some 5, op := _, type := _, pos := _, after := _, guard := _ }) (v := ?_) rfl (by kernel_rfl) (by kernel_rfl) (by kernel_rfl) (fun _ _ _ h => h) (Or.inl ⟨by rfl, ?_⟩) (by assumption) ?_
          rotate_left
          · intro w hSw
            try dsimp only at hSw
            go_simp
            try with_reducible rfl
          try simp only [Act.put, List.setIfInBounds_toArray, List.set_cons_zero, List.set_cons_succ]
          refine wpAnyH_done (by kernel_rfl) ?_ _
          go_wp2_with fail
          go_roundw
          case rel => exact ⟨k + 1, by omega, by go_num, HE1, HB3⟩
          case measure => simp [intOf]; omega
        · have dq : (q != 0) = true := bne_iff_ne.2 hq0
          have HE1 := Lib.hid (firE_hit HE.out HErr.out hq0 hlt)
          refine wp_region_held_drew (S := fun V => (V.cell? ⟨wr.heap.size, 0, none⟩ = some (.string g.id) ∧ V.cell? ⟨wr.heap.size, 1, none⟩ = some (.string g.sec) ∧ V.cell? ⟨wr.heap.size, 2, none⟩ = some (.int .i64 g.sf) ∧ V.cell? ⟨wr.heap.size, 3, none⟩ = some (.int .i64 g.su) ∧ V.cell? ⟨wr.heap.size, 4, none⟩ = some (.int .i64 g.af) ∧ V.cell? ⟨wr.heap.size, 5, none⟩ = some (.int .i64 g.au)) ∧ Hid (Below w.heap.size w V)) (by kernel_rfl) (S0) (fun hS => ?_)
          refine wpAnyH_take (i := 0) (oi := { dst := some 16, op := _, type := _, pos := _, after := _, guard := _ }) (v := ?_) rfl (by kernel_rfl) (by kernel_rfl) (by kernel_rfl) (fun _ _ _ h => h) (Or.inl ⟨by rfl, ?_⟩) (by assumption) ?_
          rotate_left
          · intro w hSw
            try dsimp only at hSw
            go_simp
            try with_reducible rfl
          try simp only [Act.put, List.setIfInBounds_toArray, List.set_cons_zero, List.set_cons_succ]
          refine wpAnyH_take (i := 1) (oi := { dst := some 17, op := _, type := _, pos := _, after := _, guard := _ }) (v := ?_) rfl (by kernel_rfl) (by kernel_rfl) (by kernel_rfl) (fun _ _ _ h => h) (Or.inl ⟨by rfl, ?_⟩) (by assumption) ?_
          rotate_left
          · intro w hSw
            try dsimp only at hSw
            go_simp
            try with_reducible rfl
          try simp only [Act.put, List.setIfInBounds_toArray, List.set_cons_zero, List.set_cons_succ]
          refine wpAnyH_take (i := 2) (oi := { dst := some 18, op := _, type := _, pos := _, after := _, guard := _ }) (v := ?_) rfl (by kernel_rfl) (by kernel_rfl) (by kernel_rfl) (fun _ _ _ h => h) (Or.inl ⟨by rfl, ?_⟩) (by assumption) ?_
          rotate_left
          · intro w hSw
            try dsimp only at hSw
            go_simp
            try with_reducible rfl
          try simp only [Act.put, List.setIfInBounds_toArray, List.set_cons_zero, List.set_cons_succ]
          refine wpAnyH_take (i := 3) (oi := { dst := some 19, op := _, type := _, pos := _, after := _, guard := _ }) (v := ?_) rfl (by kernel_rfl) (by kernel_rfl) (by kernel_rfl) (fun _ _ _ h => h) (Or.inl ⟨by rfl, ?_⟩) (by assumption) ?_
          rotate_left
          · intro w hSw
            try dsimp only at hSw
            go_simp
            try with_reducible rfl
          try simp only [Act.put, List.setIfInBounds_toArray, List.set_cons_zero, List.set_cons_succ]
          refine wpAnyH_ready (rs := [4]) (by kernel_rfl) (by simp) ?_
          refine AllReadyH.cons rfl (fun K hK => ?_) AllReadyH.nil
          go_simp
          refine (checkNext_k _ k cap (l.take k) g q _ (HT.out.below (HB2.out.trans (HD.out.mono HB2.out.size))) HSm.out HQ.out).mono ?_
          rintro e w1 ⟨rfl, hb⟩
          have HB3 := Lib.hid ((HB2.out.trans (HD.out.mono HB2.out.size)).trans (hb.mono (HB2.out.trans (HD.out.mono HB2.out.size)).size))
          have HD := Lib.hid (HD.out.trans (hb.mono HD.out.size))
          clear hb
          go_wp2_with fail
          refine hK.out _ _ ?_ (fun hHeld => ?_)
          · exact HSt.out _ HD.out
          clear hK K
          try simp only [Act.put, List.setIfInBounds_toArray, List.set_cons_zero, List.set_cons_succ]
          refine wpAnyH_take (i := 5) (oi := { dst := some 5, op := _, type := _, pos := _, after := _, guard := _ }) (v := ?_) rfl (by kernel_rfl) (by kernel_rfl) (by kernel_rfl) (fun _ _ _ h => h) (Or.inl ⟨by rfl, ?_⟩) (by assumption) ?_
          rotate_left
          · intro w hSw
            try dsimp only at hSw
            go_simp
            try with_reducible rfl
          try simp only [Act.put, List.setIfInBounds_toArray, List.set_cons_zero, List.set_cons_succ]
          refine wpAnyH_done (by kernel_rfl) ?_ _
          go_wp2_with fail
          go_ret
          exact ⟨by rw [← HZ.out, HE1.out]; rfl, HB3.out⟩
      · obtain rfl : k = l.length := by omega
        have HE1 := Lib.hid (show z = 0 by rw [← HZ.out]; exact HE.out)
        go_wp2_with fail
        go_ret
        exact ⟨by rw [HE1.out]; rfl, HB.out⟩
end Go.Proofs.YtgepcbggkfjlgaaGreatDoor
end
