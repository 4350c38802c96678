/-
  Contracts of the program's Purge, makeRoom and Use. Condition: the register lies in memory as OncM says; identifiers of at most 1000000000 bytes.
-/
import Derived.Test.YteoaekjhicphlaaOncA
set_option maxRecDepth 100000
set_option linter.unusedVariables false
set_option linter.unusedSimpArgs false
set_option linter.unnecessarySimpa false
namespace Go.Proofs.Yteoaekjhicphlaa
open Go.RowKit Go.PlainAid Go.Maps

/-- what the map holds while Purge at y goes on: 'left' is still to come -/
def purL (A : Ol) (y : Int) (left : Lit → Bool) : Ol := A.filter fun p => decide (y < p.2) || left (klit p.1)
theorem purL_start {A : Ol} (hn : OlN A) (y : Int) {left : Lit → Bool} (h : ∀ k, (olF A k).isSome = true → left (klit k) = true) : purL A y left = A := by
  unfold purL
  rw [List.filter_eq_self]
  intro p hp
  have : (olF A p.1).isSome = true := by rw [olF_some, olO_of_mem hn (show (p.1, p.2) ∈ A from hp)]; rfl
  rw [h _ this, Bool.or_true]
theorem purL_end (A : Ol) (y : Int) {left : Lit → Bool} (h : ∀ kl, left kl = false) : purL A y left = purA A y := by
  unfold purL purA
  exact List.filter_congr fun p _ => by simp [h]
theorem same_klit (a b : ByteArray) : (klit a).sameKey (klit b) = decide (a = b) := by
  unfold klit
  show (a.data.toList == b.data.toList) = _
  rw [Bool.eq_iff_iff, beq_iff_eq, decide_eq_true_eq]
  exact ⟨fun h => by cases a; cases b; simpa using h, fun h => by rw [h]⟩
theorem purL_struck {A : Ol} (hn : OlN A) {y z : Int} {left : Lit → Bool} {x : ByteArray} (hz : olO A x = some z) (hy : z ≤ y) : olDel (purL A y left) x = purL A y fun k => left k && !k.sameKey (klit x) := by
  unfold olDel purL
  rw [List.filter_filter]
  refine List.filter_congr fun p hp => ?_
  dsimp only
  rw [same_klit]
  by_cases e : p.1 = x
  · have h2 : olO A p.1 = some p.2 := olO_of_mem hn hp
    rw [e, hz] at h2
    injection h2 with h2
    simp [e]; omega
  · simp [e]
theorem purL_stays {A : Ol} (hn : OlN A) {y z : Int} {left : Lit → Bool} {x : ByteArray} (hz : olO A x = some z) (hy : y < z) : purL A y left = purL A y fun k => left k && !k.sameKey (klit x) := by
  unfold purL
  refine List.filter_congr fun p hp => ?_
  dsimp only
  rw [same_klit]
  by_cases e : p.1 = x
  · have h2 : olO A p.1 = some p.2 := olO_of_mem hn hp
    rw [e, hz] at h2
    injection h2 with h2
    have h3 : decide (y < p.2) = true := decide_eq_true (by omega)
    simp [h3]
  · simp [e]
theorem purL_at {A : Ol} (hn : OlN A) {y : Int} {left : Lit → Bool} {x : ByteArray} {v : Value} (h : olF (purL A y left) x = some v) : ∃ z, v = .int .i64 z ∧ olO A x = some z := by
  unfold olF at h
  unfold purL at h
  rw [olO_filter hn] at h
  cases q : olO A x with
  | none => rw [q] at h; cases h
  | some z =>
    rw [q, Option.filter_some] at h
    split at h
    · injection h with h; exact ⟨z, h.symm, rfl⟩
    · cases h
/-- the loop of Purge: what is under way -/
structure PuR (w : World) (g r n : Nat) (A : Ol) (y : Int) (left : Lit → Bool) (cnt : Nat) (wr : World) : Prop where
  rg : SRange wr g r n (purL A y left).length (olF (purL A y left)) left cnt
  gr : w.grownBy wr (some g)
  lo : w.heap.size ≤ r
theorem SRange.left_eq {w : World} {g r m n : Nat} {f : ByteArray → Option Value} {left : Lit → Bool} {cnt : Nat} (h : SRange w g r m n f left cnt) : w.rangeLeft g r = cnt := by
  obtain ⟨D, h1, _⟩ := h
  exact h1.left_eq
theorem PuR.start {w wr : World} {g n b : Nat} {most : Int} {A : Ol} (y : Int) {left : Lit → Bool} (hn : OlN A) (h : SRange wr g w.heap.size A.length A.length (olF A) left n) (hl : ∀ k, (olF A k).isSome = true → left (klit k) = true) (hb : Below w.heap.size w wr) : PuR w g w.heap.size A.length A y left n wr := by
  have e := purL_start hn y hl
  exact ⟨by rw [e]; exact h, grown_below hb _, Nat.le_refl _⟩
theorem PuR.struck {w wr w1 w2 : World} {g r n cnt cnt' : Nat} {A : Ol} {y z : Int} {left : Lit → Bool} {x : ByteArray} (h : PuR w g r n A y left cnt wr) (hn : OlN A) (hx : olF (purL A y left) x = some (.int .i64 z)) (hy : z ≤ y) (hgr : wr.grownBy w1 (some r)) (ht : w1.mapTurned w2 g)
    (h2 : SRange w2 g r n (if (olF (purL A y left) x).isSome then (purL A y left).length - 1 else (purL A y left).length) (delO (olF (purL A y left)) x) (fun k => (left k && !k.sameKey (klit x)) && !k.sameKey (klit x)) cnt') : PuR w g r n A y (fun k => left k && !k.sameKey (klit x)) cnt' w2 := by
  obtain ⟨z', e, hz⟩ := purL_at hn hx
  cases e
  have hs := purL_struck (left := left) hn hz hy
  rw [Go.Maps.strike_twice] at h2
  refine ⟨h2.fn ?_ fun k => ?_, (h.gr.andThen hgr fun j hj => by cases hj; exact .inl h.lo).andThen ht.grown fun j hj => by cases hj; exact .inr rfl, h.lo⟩
  · have hd := del_len (olN_filter hn fun p => decide (y < p.2) || left (klit p.1)) x
    have hd : (olDel (purL A y left) x).length + (if (olO (purL A y left) x).isSome then 1 else 0) = (purL A y left).length := hd
    have hi : (olO (purL A y left) x).isSome = true := by rw [← olF_some, hx]; rfl
    rw [hi, if_pos rfl, hs] at hd
    rw [hx, if_pos (by rfl)]; omega
  · rw [← hs, olF_del]
theorem PuR.stays {w wr w1 : World} {g r n cnt cnt' : Nat} {A : Ol} {y z : Int} {left : Lit → Bool} {x : ByteArray} (h : PuR w g r n A y left cnt wr) (hn : OlN A) (hx : olF (purL A y left) x = some (.int .i64 z)) (hy : y < z) (hgr : wr.grownBy w1 (some r))
    (h2 : SRange w1 g r n (purL A y left).length (olF (purL A y left)) (fun k => left k && !k.sameKey (klit x)) cnt') : PuR w g r n A y (fun k => left k && !k.sameKey (klit x)) cnt' w1 := by
  obtain ⟨z', e, hz⟩ := purL_at hn hx
  cases e
  have hs := purL_stays (left := left) hn hz hy
  rw [hs] at h2
  exact ⟨h2, h.gr.andThen hgr fun j hj => by cases hj; exact .inl h.lo, h.lo⟩
theorem purA_le (A : Ol) (y : Int) : (purA A y).length ≤ A.length := List.length_filter_le _ _
set_option maxHeartbeats 4000000 in
theorem purge_s (b g : Nat) (most : Int) (A B : Ol) (now y k : Int) (w : World) (h : OX w b g most A) (hy : limI now = y) (hB : purA A y = B) (hk : (A.length : Int) - (B.length : Int) = k) :
    Calls Try.prog 17 #[.pointer (some ⟨b, 0, none⟩), .int .i64 now] w fun e w' => e = .returned (.int .i64 k) ∧ OX w' b g most B ∧ w.grownBy w' (some g) := by
  have H := Lib.hid h
  have HM := Lib.hid (made_s b g most w h.blk)
  have HY := Lib.hid hy
  have HB := Lib.hid hB
  have HK := Lib.hid hk
  have hbl := h.big.1
  have hbm := h.big.2
  have hlen := h.ok.len
  have hm1 := h.m1
  have hle : B.length ≤ A.length := by rw [← hB]; exact purA_le A y
  have c2 := h.flat.2.2
  obtain ⟨n, hn⟩ : ∃ n, A.length = n := ⟨_, rfl⟩
  have HL := Lib.hid hn
  rw [hn] at hlen hle
  clear h hy hB hk hn
  go_enter Try.func17, Try.ntmps17
  go_wp2_with fail
  refine HM.out.mono ?_
  rintro e w' ⟨rfl, rfl⟩
  go_wp2_with fail
  refine (limd_s now y _ HY.out).mono ?_
  rintro e w' ⟨rfl, rfl⟩
  go_wp2_with fail
  refine (len_s b g most A n _ H.out HL.out).mono ?_
  rintro e w' ⟨rfl, rfl⟩
  go_wp2_with (first
    | (at_range; refine wpList_range_s rfl _ 47 rfl 3 Try.underlying47 g A.length (olF A) rfl H.out.map ?_; intro w0 left0 hr0 hl0 hb0 hs0)
    | go_in)
  go_frame
  have HP0 := Lib.hid (PuR.start (b := b) (most := most) y H.out.ok.nod hr0 hl0 hb0)
  clear hr0 hl0 hb0 hs0
  go_loopw [6] (fun _ wr => ∃ (left : Lit → Bool) (cnt : Nat), Hid (PuR w g w.heap.size A.length A y left cnt wr)) (fun _ wr => wr.rangeLeft g w.heap.size)
  case atStart => exact ⟨_, _, HP0⟩
  case round =>
    clear HP0
    obtain ⟨left, cnt, HP⟩ := hrel
    have c2 : wr.cell? ⟨b, 2, none⟩ = some (.map (some g)) := (World.cell?_of_block (a := ⟨b, 2, none⟩) (HP.out.gr.block b hbl (fun e => H.out.ne (by injection e with e; exact e.symm)))).trans H.out.flat.2.2
    go_wp2_with (first
      | (at_next; refine wpList_next_s rfl _ rfl g w.heap.size A.length (purL A y left).length (olF (purL A y left)) left cnt rfl HP.out.rg ?_ ?_)
      | go_in)
    · intro hl0
      have HE := Lib.hid (show purL A y left = B by rw [purL_end A y hl0]; exact HB.out)
      have HX : Hid (OX wr b g most B) := Lib.hid (H.out.to_ HP.out.gr (by have := HP.out.rg.done; rw [HE.out] at this; exact this) (by rw [← HB.out]; exact H.out.ok.pur y))
      have HG := Lib.hid HP.out.gr
      have hw1 : IntKind.i64.wrap ((n : Int) - (B.length : Int)) = (n : Int) - (B.length : Int) := by
        exact IntWalk.i64_in _ (by omega)
      have HK2 := Lib.hid (show (n : Int) - (B.length : Int) = k by rw [← HL.out]; exact HK.out)
      clear hl0 HE HP
      go_wp2_with fail
      refine (len_s b g most B B.length _ HX.out rfl).mono ?_
      rintro e w' ⟨rfl, rfl⟩
      go_wp2_with fail
      go_ret
      exact ⟨by rw [← HK2.out]; rfl, HX.out, HG.out⟩
    · intro x v w1 cnt1 hxs hl hv hr1 hlt hg1 hs1 hen
      obtain ⟨z, rfl, hz⟩ := purL_at H.out.ok.nod hv
      have c2 : w1.cell? ⟨b, 2, none⟩ = some (.map (some g)) := (World.cell?_of_block (a := ⟨b, 2, none⟩) (hg1.block b (Nat.lt_of_lt_of_le hbl HP.out.gr.size) (fun e => by injection e with e; omega))).trans c2
      have HV := Lib.hid hv
      have HG1 := Lib.hid hg1
      have HR1 := Lib.hid hr1
      have HLT := Lib.hid hlt
      clear hv hz hg1 hr1 hlt hl hs1
      by_cases hzy : z ≤ y
      · go_wp2_with (first
          | (at_delete; refine wpList_drop_r rfl _ _ x rfl HR1.out Try.underlying47 hxs rfl rfl ?_; intro w2 cnt2 hr2 hle2 ht2; go_frame)
          | go_in)
        have HP2 := Lib.hid (HP.out.struck H.out.ok.nod HV.out hzy HG1.out ht2 hr2)
        have hm : cnt2 < cnt := Nat.lt_of_le_of_lt hle2 HLT.out
        clear hr2 ht2
        go_roundw
        case rel => exact ⟨_, _, HP2⟩
        case measure => rw [HP2.out.rg.left_eq, HP.out.rg.left_eq]; exact hm
      · have HP2 := Lib.hid (HP.out.stays H.out.ok.nod HV.out (by omega) HG1.out HR1.out)
        go_wp2_with fail
        go_roundw
        case rel => exact ⟨_, _, HP2⟩
        case measure => rw [HP2.out.rg.left_eq, HP.out.rg.left_eq]; exact HLT.out
theorem purge_no (v : Value) (now : Int) (w : World) (h : NoReg w v) :
    Calls Try.prog 17 #[v, .int .i64 now] w fun e w' => e = .returned (.int .i64 0) ∧ w = w' := by
  have HM := Lib.hid (made_no v w h)
  clear h
  go_enter Try.func17, Try.ntmps17
  go_wp2_with fail
  refine HM.out.mono ?_
  rintro e w' ⟨rfl, rfl⟩
  go_wp2_with fail
  go_ret
  exact ⟨rfl, rfl⟩

/-- what makeRoom answers and leaves -/
def mkR (most : Int) (A : Ol) (u : ByteArray) (n : Int) : Bool × Ol :=
  if (olO A u).isSome = true then (true, A) else if (A.length : Int) < most then (true, A) else (decide (((purA A n).length : Int) < most), purA A n)
theorem mk_use {most t n : Int} {A : Ol} {u : ByteArray} : useP most A u t n = if wordB u = false then (5, A) else if t ≤ n then (13, A) else if n < atA A u then (18, A) else if (mkR most A u n).1 = true then (0, olSet (mkR most A u n).2 u t) else (3, (mkR most A u n).2) := by
  unfold useP mkR
  by_cases c4 : (olO A u).isSome = true
  · rw [if_pos c4, if_pos c4, if_pos rfl]
  rw [if_neg c4, if_neg c4]
  by_cases c5 : (A.length : Int) < most
  · rw [if_pos c5, if_pos c5, if_pos rfl]
  rw [if_neg c5, if_neg c5]
  by_cases c6 : ((purA A n).length : Int) < most
  · rw [if_pos c6, if_pos (decide_eq_true c6)]
  · have hd := decide_eq_false c6
    rw [if_neg c6, hd]; rfl
theorem mk_room {most n : Int} {A : Ol} {u : ByteArray} (h : OlOk most A) (hx : (mkR most A u n).1 = true) : (olO (mkR most A u n).2 u).isSome = true ∨ (((mkR most A u n).2).length : Int) < most := by
  unfold mkR at hx ⊢
  by_cases c4 : (olO A u).isSome = true
  · rw [if_pos c4]; exact .inl c4
  rw [if_neg c4] at hx ⊢
  by_cases c5 : (A.length : Int) < most
  · rw [if_pos c5]; exact .inr c5
  rw [if_neg c5] at hx ⊢
  exact .inr (of_decide_eq_true hx)
set_option maxHeartbeats 4000000 in
theorem makeRoom_s (b g : Nat) (most : Int) (A C : Ol) (u : ByteArray) (n : Int) (x : Bool) (w : World) (h : OX w b g most A) (hu : u.size ≤ 1000000000) (hn : limI n = n) (hr : mkR most A u n = (x, C)) :
    Calls Try.prog 26 #[.pointer (some ⟨b, 0, none⟩), .string u, .int .i64 n] w fun e w' => e = .returned (.bool x) ∧ OX w' b g most C ∧ w.grownBy w' (some g) := by
  have H := Lib.hid h
  have HSt : Hid (∀ V, OX V b g most A → V.cell? ⟨b, 1, none⟩ = some (.int .i64 most)) := Lib.hid fun V hV => hV.flat.2.1
  have c2 := h.flat.2.2
  have hlk := h.look_ok u hu
  have hlen := h.ok.len
  obtain ⟨z, hz⟩ : ∃ z, atA A u = z := ⟨_, rfl⟩
  rw [hz] at hlk
  obtain ⟨m, hm⟩ : ∃ m, A.length = m := ⟨_, rfl⟩
  have HL := Lib.hid hm
  rw [hm] at hlen
  have HN := Lib.hid hn
  clear h hn hz
  cases c4 : (olO A u).isSome with
  | true =>
    have hr2 : x = true ∧ C = A := by
      unfold mkR at hr
      rw [if_pos c4] at hr
      injection hr with h1 h2
      exact ⟨h1.symm, h2.symm⟩
    obtain ⟨rfl, rfl⟩ := hr2
    rw [c4] at hlk
    clear hr c4 hm
    go_enter Try.func26, Try.ntmps26
    go_wp2_with fail
    clear c2 hlk
    have HX : Hid (OX w.drew b g most C) := Lib.hid (H.out.step (Below.refl _ _).drew)
    have HG : Hid (w.grownBy w.drew (some g)) := Lib.hid (grown_below (Below.refl _ _).drew _)
    have S0 := HSt.out _ HX.out
    refine wp_region_held_drew (S := fun V => V.cell? ⟨b, 1, none⟩ = some (.int .i64 most)) (by kernel_rfl) (S0) (fun hS => ?_)
    refine wpAnyH_take (i := 0) (oi := { dst := some 18, op := _, type := _, pos := _, after := _, guard := _ }) (v := ?_) rfl (by kernel_rfl) (by kernel_rfl) (by kernel_rfl) (fun _ _ _ h => h) (Or.inl ⟨by rfl, ?_⟩) (by assumption) ?_
    rotate_left
    · intro w hSw
      try dsimp only at hSw
      go_simp
      try with_reducible rfl
    try simp only [Act.put, List.setIfInBounds_toArray, List.set_cons_zero, List.set_cons_succ]
    refine wpAnyH_take (i := 1) (oi := { dst := some 19, op := _, type := _, pos := _, after := _, guard := _ }) (v := ?_) rfl (by kernel_rfl) (by kernel_rfl) (by kernel_rfl) (fun _ _ _ h => h) (Or.inl ⟨by rfl, ?_⟩) (by assumption) ?_
    rotate_left
    · intro w hSw
      try dsimp only at hSw
      go_simp
      try with_reducible rfl
    try simp only [Act.put, List.setIfInBounds_toArray, List.set_cons_zero, List.set_cons_succ]
    refine wpAnyH_take (i := 2) (oi := { dst := some 20, op := _, type := _, pos := _, after := _, guard := _ }) (v := undef) rfl (by kernel_rfl) (by kernel_rfl) (by kernel_rfl) (fun _ _ _ h => h) (Or.inr ⟨by rfl, rfl⟩) (by assumption) ?_
    try simp only [Act.put, List.setIfInBounds_toArray, List.set_cons_zero, List.set_cons_succ]
    refine wpAnyH_take (i := 3) (oi := { dst := some 21, op := _, type := _, pos := _, after := _, guard := _ }) (v := undef) rfl (by kernel_rfl) (by kernel_rfl) (by kernel_rfl) (fun _ _ _ h => h) (Or.inr ⟨by rfl, rfl⟩) (by assumption) ?_
    try simp only [Act.put, List.setIfInBounds_toArray, List.set_cons_zero, List.set_cons_succ]
    refine wpAnyH_take (i := 4) (oi := { dst := some 22, op := _, type := _, pos := _, after := _, guard := _ }) (v := undef) rfl (by kernel_rfl) (by kernel_rfl) (by kernel_rfl) (fun _ _ _ h => h) (Or.inr ⟨by rfl, rfl⟩) (by assumption) ?_
    try simp only [Act.put, List.setIfInBounds_toArray, List.set_cons_zero, List.set_cons_succ]
    refine wpAnyH_take (i := 5) (oi := { dst := some 23, op := _, type := _, pos := _, after := _, guard := _ }) (v := undef) rfl (by kernel_rfl) (by kernel_rfl) (by kernel_rfl) (fun _ _ _ h => h) (Or.inr ⟨by rfl, rfl⟩) (by assumption) ?_
    try simp only [Act.put, List.setIfInBounds_toArray, List.set_cons_zero, List.set_cons_succ]
    refine wpAnyH_take (i := 6) (oi := { dst := some 24, op := _, type := _, pos := _, after := _, guard := _ }) (v := undef) rfl (by kernel_rfl) (by kernel_rfl) (by kernel_rfl) (fun _ _ _ h => h) (Or.inr ⟨by rfl, rfl⟩) (by assumption) ?_
    try simp only [Act.put, List.setIfInBounds_toArray, List.set_cons_zero, List.set_cons_succ]
    refine wpAnyH_take (i := 7) (oi := { dst := some 25, op := _, type := _, pos := _, after := _, guard := _ }) (v := undef) rfl (by kernel_rfl) (by kernel_rfl) (by kernel_rfl) (fun _ _ _ h => h) (Or.inr ⟨by rfl, rfl⟩) (by assumption) ?_
    try simp only [Act.put, List.setIfInBounds_toArray, List.set_cons_zero, List.set_cons_succ]
    refine wpAnyH_take (i := 8) (oi := { dst := some 26, op := _, type := _, pos := _, after := _, guard := _ }) (v := undef) rfl (by kernel_rfl) (by kernel_rfl) (by kernel_rfl) (fun _ _ _ h => h) (Or.inr ⟨by rfl, rfl⟩) (by assumption) ?_
    try simp only [Act.put, List.setIfInBounds_toArray, List.set_cons_zero, List.set_cons_succ]
    refine wpAnyH_take (i := 9) (oi := { dst := some 27, op := _, type := _, pos := _, after := _, guard := _ }) (v := ?_) rfl (by kernel_rfl) (by kernel_rfl) (by kernel_rfl) (fun _ _ _ h => h) (Or.inl ⟨by rfl, ?_⟩) (by assumption) ?_
    rotate_left
    · intro w hSw
      try dsimp only at hSw
      go_simp
      try with_reducible rfl
    try simp only [Act.put, List.setIfInBounds_toArray, List.set_cons_zero, List.set_cons_succ]
    refine wpAnyH_take (i := 10) (oi := { dst := some 28, op := _, type := _, pos := _, after := _, guard := _ }) (v := ?_) rfl (by kernel_rfl) (by kernel_rfl) (by kernel_rfl) (fun _ _ _ h => h) (Or.inl ⟨by rfl, ?_⟩) (by assumption) ?_
    rotate_left
    · intro w hSw
      try dsimp only at hSw
      go_simp
      try with_reducible rfl
    try simp only [Act.put, List.setIfInBounds_toArray, List.set_cons_zero, List.set_cons_succ]
    refine wpAnyH_take (i := 11) (oi := { dst := some 29, op := _, type := _, pos := _, after := _, guard := _ }) (v := undef) rfl (by kernel_rfl) (by kernel_rfl) (by kernel_rfl) (fun _ _ _ h => h) (Or.inr ⟨by rfl, rfl⟩) (by assumption) ?_
    try simp only [Act.put, List.setIfInBounds_toArray, List.set_cons_zero, List.set_cons_succ]
    refine wpAnyH_take (i := 12) (oi := { dst := some 30, op := _, type := _, pos := _, after := _, guard := _ }) (v := undef) rfl (by kernel_rfl) (by kernel_rfl) (by kernel_rfl) (fun _ _ _ h => h) (Or.inr ⟨by rfl, rfl⟩) (by assumption) ?_
    try simp only [Act.put, List.setIfInBounds_toArray, List.set_cons_zero, List.set_cons_succ]
    refine wpAnyH_take (i := 13) (oi := { dst := some 31, op := _, type := _, pos := _, after := _, guard := _ }) (v := undef) rfl (by kernel_rfl) (by kernel_rfl) (by kernel_rfl) (fun _ _ _ h => h) (Or.inr ⟨by rfl, rfl⟩) (by assumption) ?_
    try simp only [Act.put, List.setIfInBounds_toArray, List.set_cons_zero, List.set_cons_succ]
    refine wpAnyH_take (i := 14) (oi := { dst := some 32, op := _, type := _, pos := _, after := _, guard := _ }) (v := undef) rfl (by kernel_rfl) (by kernel_rfl) (by kernel_rfl) (fun _ _ _ h => h) (Or.inr ⟨by rfl, rfl⟩) (by assumption) ?_
    try simp only [Act.put, List.setIfInBounds_toArray, List.set_cons_zero, List.set_cons_succ]
    refine wpAnyH_take (i := 15) (oi := { dst := some 33, op := _, type := _, pos := _, after := _, guard := _ }) (v := ?_) rfl (by kernel_rfl) (by kernel_rfl) (by kernel_rfl) (fun _ _ _ h => h) (Or.inl ⟨by rfl, ?_⟩) (by assumption) ?_
    rotate_left
    · intro w hSw
      try dsimp only at hSw
      go_simp
      try with_reducible rfl
    try simp only [Act.put, List.setIfInBounds_toArray, List.set_cons_zero, List.set_cons_succ]
    refine wpAnyH_take (i := 16) (oi := { dst := some 6, op := _, type := _, pos := _, after := _, guard := _ }) (v := ?_) rfl (by kernel_rfl) (by kernel_rfl) (by kernel_rfl) (fun _ _ _ h => h) (Or.inl ⟨by rfl, ?_⟩) (by assumption) ?_
    rotate_left
    · intro w hSw
      try dsimp only at hSw
      go_simp
      try with_reducible rfl
    try simp only [Act.put, List.setIfInBounds_toArray, List.set_cons_zero, List.set_cons_succ]
    refine wpAnyH_done (by kernel_rfl) ?_ _
    go_wp2_with fail
    go_ret
    exact ⟨rfl, HX.out, HG.out⟩
  | false =>
    rw [c4] at hlk
    by_cases c5 : (m : Int) < most
    · have hr2 : x = true ∧ C = A := by
        unfold mkR at hr
        rw [if_neg (by rw [c4]; decide), hm, if_pos c5] at hr
        injection hr with h1 h2
        exact ⟨h1.symm, h2.symm⟩
      obtain ⟨rfl, rfl⟩ := hr2
      have d1 : decide ((m : Int) < most) = true := decide_eq_true c5
      clear hr c4 hm c5
      go_enter Try.func26, Try.ntmps26
      go_wp2_with fail
      clear c2 hlk
      have HX : Hid (OX w.drew b g most C) := Lib.hid (H.out.step (Below.refl _ _).drew)
      have HG : Hid (w.grownBy w.drew (some g)) := Lib.hid (grown_below (Below.refl _ _).drew _)
      have S0 := HSt.out _ HX.out
      refine wp_region_held_drew (S := fun V => V.cell? ⟨b, 1, none⟩ = some (.int .i64 most)) (by kernel_rfl) (S0) (fun hS => ?_)
      refine wpAnyH_take (i := 0) (oi := { dst := some 18, op := _, type := _, pos := _, after := _, guard := _ }) (v := ?_) rfl (by kernel_rfl) (by kernel_rfl) (by kernel_rfl) (fun _ _ _ h => h) (Or.inl ⟨by rfl, ?_⟩) (by assumption) ?_
      rotate_left
      · intro w hSw
        try dsimp only at hSw
        go_simp
        try with_reducible rfl
      try simp only [Act.put, List.setIfInBounds_toArray, List.set_cons_zero, List.set_cons_succ]
      refine wpAnyH_take (i := 1) (oi := { dst := some 19, op := _, type := _, pos := _, after := _, guard := _ }) (v := ?_) rfl (by kernel_rfl) (by kernel_rfl) (by kernel_rfl) (fun _ _ _ h => h) (Or.inl ⟨by rfl, ?_⟩) (by assumption) ?_
      rotate_left
      · intro w hSw
        try dsimp only at hSw
        go_simp
        try with_reducible rfl
      try simp only [Act.put, List.setIfInBounds_toArray, List.set_cons_zero, List.set_cons_succ]
      refine wpAnyH_take (i := 2) (oi := { dst := some 20, op := _, type := _, pos := _, after := _, guard := _ }) (v := ?_) rfl (by kernel_rfl) (by kernel_rfl) (by kernel_rfl) (fun _ _ _ h => h) (Or.inl ⟨by rfl, ?_⟩) (by assumption) ?_
      rotate_left
      · intro w hSw
        try dsimp only at hSw
        go_simp
        try with_reducible rfl
      try simp only [Act.put, List.setIfInBounds_toArray, List.set_cons_zero, List.set_cons_succ]
      refine wpAnyH_take (i := 4) (oi := { dst := some 22, op := _, type := _, pos := _, after := _, guard := _ }) (v := ?_) rfl (by kernel_rfl) (by kernel_rfl) (by kernel_rfl) (fun _ _ _ h => h) (Or.inl ⟨by rfl, ?_⟩) (by assumption) ?_
      rotate_left
      · intro w hSw
        try dsimp only at hSw
        go_simp
        try with_reducible rfl
      try simp only [Act.put, List.setIfInBounds_toArray, List.set_cons_zero, List.set_cons_succ]
      refine wpAnyH_take (i := 5) (oi := { dst := some 23, op := _, type := _, pos := _, after := _, guard := _ }) (v := ?_) rfl (by kernel_rfl) (by kernel_rfl) (by kernel_rfl) (fun _ _ _ h => h) (Or.inl ⟨by rfl, ?_⟩) (by assumption) ?_
      rotate_left
      · intro w hSw
        try dsimp only at hSw
        go_simp
        try with_reducible rfl
      try simp only [Act.put, List.setIfInBounds_toArray, List.set_cons_zero, List.set_cons_succ]
      refine wpAnyH_take (i := 6) (oi := { dst := some 24, op := _, type := _, pos := _, after := _, guard := _ }) (v := ?_) rfl (by kernel_rfl) (by kernel_rfl) (by kernel_rfl) (fun _ _ _ h => h) (Or.inl ⟨by rfl, ?_⟩) (by assumption) ?_
      rotate_left
      · intro w hSw
        try dsimp only at hSw
        go_simp
        try with_reducible rfl
      try simp only [Act.put, List.setIfInBounds_toArray, List.set_cons_zero, List.set_cons_succ]
      refine wpAnyH_take (i := 7) (oi := { dst := some 25, op := _, type := _, pos := _, after := _, guard := _ }) (v := ?_) rfl (by kernel_rfl) (by kernel_rfl) (by kernel_rfl) (fun _ _ _ h => h) (Or.inl ⟨by rfl, ?_⟩) (by assumption) ?_
      rotate_left
      · intro w hSw
        try dsimp only at hSw
        go_simp
        try with_reducible rfl
      try simp only [Act.put, List.setIfInBounds_toArray, List.set_cons_zero, List.set_cons_succ]
      refine wpAnyH_ready (rs := [3]) (by kernel_rfl) (by simp) ?_
      refine AllReadyH.cons rfl (fun K hK => ?_) AllReadyH.nil
      go_simp
      refine (len_s b g most C m _ HX.out HL.out).mono ?_
      rintro e w' ⟨rfl, rfl⟩
      go_wp2_with fail
      refine hK.out _ _ ?_ (fun hHeld => ?_)
      · exact S0
      clear hK K
      try simp only [Act.put, List.setIfInBounds_toArray, List.set_cons_zero, List.set_cons_succ]
      refine wpAnyH_take (i := 8) (oi := { dst := some 26, op := _, type := _, pos := _, after := _, guard := _ }) (v := ?_) rfl (by kernel_rfl) (by kernel_rfl) (by kernel_rfl) (fun _ _ _ h => h) (Or.inl ⟨by rfl, ?_⟩) (by assumption) ?_
      rotate_left
      · intro w hSw
        try dsimp only at hSw
        go_simp
        try with_reducible rfl
      try simp only [Act.put, List.setIfInBounds_toArray, List.set_cons_zero, List.set_cons_succ]
      refine wpAnyH_take (i := 9) (oi := { dst := some 27, op := _, type := _, pos := _, after := _, guard := _ }) (v := ?_) rfl (by kernel_rfl) (by kernel_rfl) (by kernel_rfl) (fun _ _ _ h => h) (Or.inl ⟨by rfl, ?_⟩) (by assumption) ?_
      rotate_left
      · intro w hSw
        try dsimp only at hSw
        go_simp
        try with_reducible rfl
      try simp only [Act.put, List.setIfInBounds_toArray, List.set_cons_zero, List.set_cons_succ]
      refine wpAnyH_take (i := 10) (oi := { dst := some 28, op := _, type := _, pos := _, after := _, guard := _ }) (v := ?_) rfl (by kernel_rfl) (by kernel_rfl) (by kernel_rfl) (fun _ _ _ h => h) (Or.inl ⟨by rfl, ?_⟩) (by assumption) ?_
      rotate_left
      · intro w hSw
        try dsimp only at hSw
        go_simp
        try with_reducible rfl
      try simp only [Act.put, List.setIfInBounds_toArray, List.set_cons_zero, List.set_cons_succ]
      refine wpAnyH_take (i := 11) (oi := { dst := some 29, op := _, type := _, pos := _, after := _, guard := _ }) (v := undef) rfl (by kernel_rfl) (by kernel_rfl) (by kernel_rfl) (fun _ _ _ h => h) (Or.inr ⟨by rfl, rfl⟩) (by assumption) ?_
      try simp only [Act.put, List.setIfInBounds_toArray, List.set_cons_zero, List.set_cons_succ]
      refine wpAnyH_take (i := 12) (oi := { dst := some 30, op := _, type := _, pos := _, after := _, guard := _ }) (v := undef) rfl (by kernel_rfl) (by kernel_rfl) (by kernel_rfl) (fun _ _ _ h => h) (Or.inr ⟨by rfl, rfl⟩) (by assumption) ?_
      try simp only [Act.put, List.setIfInBounds_toArray, List.set_cons_zero, List.set_cons_succ]
      refine wpAnyH_take (i := 13) (oi := { dst := some 31, op := _, type := _, pos := _, after := _, guard := _ }) (v := undef) rfl (by kernel_rfl) (by kernel_rfl) (by kernel_rfl) (fun _ _ _ h => h) (Or.inr ⟨by rfl, rfl⟩) (by assumption) ?_
      try simp only [Act.put, List.setIfInBounds_toArray, List.set_cons_zero, List.set_cons_succ]
      refine wpAnyH_take (i := 14) (oi := { dst := some 32, op := _, type := _, pos := _, after := _, guard := _ }) (v := undef) rfl (by kernel_rfl) (by kernel_rfl) (by kernel_rfl) (fun _ _ _ h => h) (Or.inr ⟨by rfl, rfl⟩) (by assumption) ?_
      try simp only [Act.put, List.setIfInBounds_toArray, List.set_cons_zero, List.set_cons_succ]
      refine wpAnyH_take (i := 15) (oi := { dst := some 33, op := _, type := _, pos := _, after := _, guard := _ }) (v := ?_) rfl (by kernel_rfl) (by kernel_rfl) (by kernel_rfl) (fun _ _ _ h => h) (Or.inl ⟨by rfl, ?_⟩) (by assumption) ?_
      rotate_left
      · intro w hSw
        try dsimp only at hSw
        go_simp
        try with_reducible rfl
      try simp only [Act.put, List.setIfInBounds_toArray, List.set_cons_zero, List.set_cons_succ]
      refine wpAnyH_take (i := 16) (oi := { dst := some 6, op := _, type := _, pos := _, after := _, guard := _ }) (v := ?_) rfl (by kernel_rfl) (by kernel_rfl) (by kernel_rfl) (fun _ _ _ h => h) (Or.inl ⟨by rfl, ?_⟩) (by assumption) ?_
      rotate_left
      · intro w hSw
        try dsimp only at hSw
        go_simp
        try with_reducible rfl
      try simp only [Act.put, List.setIfInBounds_toArray, List.set_cons_zero, List.set_cons_succ]
      refine wpAnyH_done (by kernel_rfl) ?_ _
      go_wp2_with fail
      go_ret
      exact ⟨rfl, HX.out, HG.out⟩
    · obtain ⟨k, hk⟩ : ∃ k : Int, (A.length : Int) - ((purA A n).length : Int) = k := ⟨_, rfl⟩
      have hle := purA_le A n
      have hr2 : x = decide (0 < k) ∧ C = purA A n := by
        unfold mkR at hr
        rw [if_neg (by rw [c4]; decide), hm, if_neg c5] at hr
        injection hr with h1 h2
        refine ⟨?_, h2.symm⟩
        rw [← h1, ← hk, hm]
        rw [hm] at hle
        exact decide_eq_decide.2 (by omega)
      obtain ⟨hx, rfl⟩ := hr2
      have HX2 := Lib.hid hx
      have HK := Lib.hid hk
      have d1 : decide ((m : Int) < most) = false := decide_eq_false c5
      clear hr c4 hm c5 hle hk hx
      go_enter Try.func26, Try.ntmps26
      go_wp2_with fail
      clear c2 hlk
      have HX : Hid (OX w.drew b g most A) := Lib.hid (H.out.step (Below.refl _ _).drew)
      have HG : Hid (w.grownBy w.drew (some g)) := Lib.hid (grown_below (Below.refl _ _).drew _)
      have S0 := HSt.out _ HX.out
      refine wp_region_held_drew (S := fun V => V.cell? ⟨b, 1, none⟩ = some (.int .i64 most)) (by kernel_rfl) (S0) (fun hS => ?_)
      refine wpAnyH_take (i := 0) (oi := { dst := some 18, op := _, type := _, pos := _, after := _, guard := _ }) (v := ?_) rfl (by kernel_rfl) (by kernel_rfl) (by kernel_rfl) (fun _ _ _ h => h) (Or.inl ⟨by rfl, ?_⟩) (by assumption) ?_
      rotate_left
      · intro w hSw
        try dsimp only at hSw
        go_simp
        try with_reducible rfl
      try simp only [Act.put, List.setIfInBounds_toArray, List.set_cons_zero, List.set_cons_succ]
      refine wpAnyH_take (i := 1) (oi := { dst := some 19, op := _, type := _, pos := _, after := _, guard := _ }) (v := ?_) rfl (by kernel_rfl) (by kernel_rfl) (by kernel_rfl) (fun _ _ _ h => h) (Or.inl ⟨by rfl, ?_⟩) (by assumption) ?_
      rotate_left
      · intro w hSw
        try dsimp only at hSw
        go_simp
        try with_reducible rfl
      try simp only [Act.put, List.setIfInBounds_toArray, List.set_cons_zero, List.set_cons_succ]
      refine wpAnyH_take (i := 2) (oi := { dst := some 20, op := _, type := _, pos := _, after := _, guard := _ }) (v := ?_) rfl (by kernel_rfl) (by kernel_rfl) (by kernel_rfl) (fun _ _ _ h => h) (Or.inl ⟨by rfl, ?_⟩) (by assumption) ?_
      rotate_left
      · intro w hSw
        try dsimp only at hSw
        go_simp
        try with_reducible rfl
      try simp only [Act.put, List.setIfInBounds_toArray, List.set_cons_zero, List.set_cons_succ]
      refine wpAnyH_take (i := 4) (oi := { dst := some 22, op := _, type := _, pos := _, after := _, guard := _ }) (v := ?_) rfl (by kernel_rfl) (by kernel_rfl) (by kernel_rfl) (fun _ _ _ h => h) (Or.inl ⟨by rfl, ?_⟩) (by assumption) ?_
      rotate_left
      · intro w hSw
        try dsimp only at hSw
        go_simp
        try with_reducible rfl
      try simp only [Act.put, List.setIfInBounds_toArray, List.set_cons_zero, List.set_cons_succ]
      refine wpAnyH_take (i := 5) (oi := { dst := some 23, op := _, type := _, pos := _, after := _, guard := _ }) (v := ?_) rfl (by kernel_rfl) (by kernel_rfl) (by kernel_rfl) (fun _ _ _ h => h) (Or.inl ⟨by rfl, ?_⟩) (by assumption) ?_
      rotate_left
      · intro w hSw
        try dsimp only at hSw
        go_simp
        try with_reducible rfl
      try simp only [Act.put, List.setIfInBounds_toArray, List.set_cons_zero, List.set_cons_succ]
      refine wpAnyH_take (i := 6) (oi := { dst := some 24, op := _, type := _, pos := _, after := _, guard := _ }) (v := ?_) rfl (by kernel_rfl) (by kernel_rfl) (by kernel_rfl) (fun _ _ _ h => h) (Or.inl ⟨by rfl, ?_⟩) (by assumption) ?_
      rotate_left
      · intro w hSw
        try dsimp only at hSw
        go_simp
        try with_reducible rfl
      try simp only [Act.put, List.setIfInBounds_toArray, List.set_cons_zero, List.set_cons_succ]
      refine wpAnyH_take (i := 7) (oi := { dst := some 25, op := _, type := _, pos := _, after := _, guard := _ }) (v := ?_) rfl (by kernel_rfl) (by kernel_rfl) (by kernel_rfl) (fun _ _ _ h => h) (Or.inl ⟨by rfl, ?_⟩) (by assumption) ?_
      rotate_left
      · intro w hSw
        try dsimp only at hSw
        go_simp
        try with_reducible rfl
      try simp only [Act.put, List.setIfInBounds_toArray, List.set_cons_zero, List.set_cons_succ]
      refine wpAnyH_ready (rs := [3]) (by kernel_rfl) (by simp) ?_
      refine AllReadyH.cons rfl (fun K hK => ?_) AllReadyH.nil
      go_simp
      refine (len_s b g most A m _ HX.out HL.out).mono ?_
      rintro e w' ⟨rfl, rfl⟩
      go_wp2_with fail
      refine hK.out _ _ ?_ (fun hHeld => ?_)
      · exact S0
      clear hK K
      try simp only [Act.put, List.setIfInBounds_toArray, List.set_cons_zero, List.set_cons_succ]
      refine wpAnyH_take (i := 8) (oi := { dst := some 26, op := _, type := _, pos := _, after := _, guard := _ }) (v := ?_) rfl (by kernel_rfl) (by kernel_rfl) (by kernel_rfl) (fun _ _ _ h => h) (Or.inl ⟨by rfl, ?_⟩) (by assumption) ?_
      rotate_left
      · intro w hSw
        try dsimp only at hSw
        go_simp
        try with_reducible rfl
      try simp only [Act.put, List.setIfInBounds_toArray, List.set_cons_zero, List.set_cons_succ]
      refine wpAnyH_take (i := 9) (oi := { dst := some 27, op := _, type := _, pos := _, after := _, guard := _ }) (v := ?_) rfl (by kernel_rfl) (by kernel_rfl) (by kernel_rfl) (fun _ _ _ h => h) (Or.inl ⟨by rfl, ?_⟩) (by assumption) ?_
      rotate_left
      · intro w hSw
        try dsimp only at hSw
        go_simp
        try with_reducible rfl
      try simp only [Act.put, List.setIfInBounds_toArray, List.set_cons_zero, List.set_cons_succ]
      refine wpAnyH_take (i := 10) (oi := { dst := some 28, op := _, type := _, pos := _, after := _, guard := _ }) (v := ?_) rfl (by kernel_rfl) (by kernel_rfl) (by kernel_rfl) (fun _ _ _ h => h) (Or.inl ⟨by rfl, ?_⟩) (by assumption) ?_
      rotate_left
      · intro w hSw
        try dsimp only at hSw
        go_simp
        try with_reducible rfl
      try simp only [Act.put, List.setIfInBounds_toArray, List.set_cons_zero, List.set_cons_succ]
      refine wpAnyH_take (i := 11) (oi := { dst := some 29, op := _, type := _, pos := _, after := _, guard := _ }) (v := ?_) rfl (by kernel_rfl) (by kernel_rfl) (by kernel_rfl) (fun _ _ _ h => h) (Or.inl ⟨by rfl, ?_⟩) (by assumption) ?_
      rotate_left
      · intro w hSw
        try dsimp only at hSw
        go_simp
        try with_reducible rfl
      try simp only [Act.put, List.setIfInBounds_toArray, List.set_cons_zero, List.set_cons_succ]
      refine wpAnyH_take (i := 12) (oi := { dst := some 30, op := _, type := _, pos := _, after := _, guard := _ }) (v := ?_) rfl (by kernel_rfl) (by kernel_rfl) (by kernel_rfl) (fun _ _ _ h => h) (Or.inl ⟨by rfl, ?_⟩) (by assumption) ?_
      rotate_left
      · intro w hSw
        try dsimp only at hSw
        go_simp
        try with_reducible rfl
      try simp only [Act.put, List.setIfInBounds_toArray, List.set_cons_zero, List.set_cons_succ]
      refine wpAnyH_ready (rs := [13]) (by kernel_rfl) (by simp) ?_
      refine AllReadyH.cons rfl (fun K hK => ?_) AllReadyH.nil
      go_simp
      refine (purge_s b g most A (purA A n) n n k _ HX.out HN.out rfl HK.out).mono ?_
      rintro e w5 ⟨rfl, hx5, hg5⟩
      have HX5 := Lib.hid hx5
      have HG := Lib.hid (grown_trans HG.out hg5)
      clear hx5 hg5
      go_wp2_with fail
      refine hK.out _ _ ?_ (fun hHeld => ?_)
      · exact HX5.out.flat.2.1
      clear hK K
      try simp only [Act.put, List.setIfInBounds_toArray, List.set_cons_zero, List.set_cons_succ]
      refine wpAnyH_take (i := 14) (oi := { dst := some 32, op := _, type := _, pos := _, after := _, guard := _ }) (v := ?_) rfl (by kernel_rfl) (by kernel_rfl) (by kernel_rfl) (fun _ _ _ h => h) (Or.inl ⟨by rfl, ?_⟩) (by assumption) ?_
      rotate_left
      · intro w hSw
        try dsimp only at hSw
        go_simp
        try with_reducible rfl
      try simp only [Act.put, List.setIfInBounds_toArray, List.set_cons_zero, List.set_cons_succ]
      refine wpAnyH_take (i := 15) (oi := { dst := some 33, op := _, type := _, pos := _, after := _, guard := _ }) (v := ?_) rfl (by kernel_rfl) (by kernel_rfl) (by kernel_rfl) (fun _ _ _ h => h) (Or.inl ⟨by rfl, ?_⟩) (by assumption) ?_
      rotate_left
      · intro w hSw
        try dsimp only at hSw
        go_simp
        try with_reducible rfl
      try simp only [Act.put, List.setIfInBounds_toArray, List.set_cons_zero, List.set_cons_succ]
      refine wpAnyH_take (i := 16) (oi := { dst := some 6, op := _, type := _, pos := _, after := _, guard := _ }) (v := ?_) rfl (by kernel_rfl) (by kernel_rfl) (by kernel_rfl) (fun _ _ _ h => h) (Or.inl ⟨by rfl, ?_⟩) (by assumption) ?_
      rotate_left
      · intro w hSw
        try dsimp only at hSw
        go_simp
        try with_reducible rfl
      try simp only [Act.put, List.setIfInBounds_toArray, List.set_cons_zero, List.set_cons_succ]
      refine wpAnyH_done (by kernel_rfl) ?_ _
      go_wp2_with fail
      go_ret
      exact ⟨by rw [HX2.out]; rfl, HX5.out, HG.out⟩
set_option maxHeartbeats 4000000 in
theorem use_s (b g : Nat) (most : Int) (A A' : Ol) (u : ByteArray) (x now t n r : Int) (w : World) (h : OX w b g most A) (hu : u.size ≤ 1000000000) (hx : limI x = t) (hn : limI now = n) (hr : useP most A u t n = (r, A')) :
    Calls Try.prog 13 #[.pointer (some ⟨b, 0, none⟩), .string u, .int .i64 x, .int .i64 now] w fun e w' => e = .returned (.int .i64 r) ∧ OX w' b g most A' ∧ w.grownBy w' (some g) := by
  have H := Lib.hid h
  have HM := Lib.hid (fun V (hV : Below w.heap.size w V) => made_s b g most V (h.blk.step hV))
  have HXT := Lib.hid hx
  have HNW := Lib.hid hn
  have HNN := Lib.hid (show limI n = n by rw [← hn]; exact limI_lim now)
  have htb := limI_bd x
  rw [hx] at htb
  have hnb := limI_bd now
  rw [hn] at hnb
  rw [mk_use] at hr
  clear h hx hn
  cases hw : wordB u with
  | false =>
    rw [if_pos hw] at hr
    injection hr with h1 h2
    subst h1 h2
    have HW := Lib.hid hw
    clear hw htb hnb
    go_enter Try.func13, Try.ntmps13
    go_wp2_with fail
    refine (limd_s x t _ HXT.out).mono ?_
    rintro e w' ⟨rfl, rfl⟩
    go_wp2_with fail
    refine (limd_s now n _ HNW.out).mono ?_
    rintro e w' ⟨rfl, rfl⟩
    go_wp2_with fail
    refine (HM.out _ (Below.refl _ _)).mono ?_
    rintro e w' ⟨rfl, rfl⟩
    go_wp2_with fail
    refine (word_k u _ _ hu HW.out).mono ?_
    rintro e w' ⟨rfl, rfl⟩
    go_wp2_with fail
    go_ret
    exact ⟨rfl, H.out, grown_refl _ _⟩
  | true =>
    rw [if_neg (by rw [hw]; decide)] at hr
    have HW := Lib.hid hw
    clear hw
    by_cases c2 : t ≤ n
    · rw [if_pos c2] at hr
      injection hr with h1 h2
      subst h1 h2
      clear htb hnb
      go_enter Try.func13, Try.ntmps13
      go_wp2_with fail
      refine (limd_s x t _ HXT.out).mono ?_
      rintro e w' ⟨rfl, rfl⟩
      go_wp2_with fail
      refine (limd_s now n _ HNW.out).mono ?_
      rintro e w' ⟨rfl, rfl⟩
      go_wp2_with fail
      refine (HM.out _ (Below.refl _ _)).mono ?_
      rintro e w' ⟨rfl, rfl⟩
      go_wp2_with fail
      refine (word_k u _ _ hu HW.out).mono ?_
      rintro e w' ⟨rfl, rfl⟩
      go_wp2_with fail
      go_ret
      exact ⟨rfl, H.out, grown_refl _ _⟩
    · rw [if_neg c2] at hr
      by_cases c3 : n < atA A u
      · rw [if_pos c3] at hr
        injection hr with h1 h2
        subst h1 h2
        have HC3 := Lib.hid (decide_eq_true c3)
        clear htb hnb c3
        go_enter Try.func13, Try.ntmps13
        go_wp2_with fail
        refine (limd_s x t _ HXT.out).mono ?_
        rintro e w' ⟨rfl, rfl⟩
        go_wp2_with fail
        refine (limd_s now n _ HNW.out).mono ?_
        rintro e w' ⟨rfl, rfl⟩
        go_wp2_with fail
        refine (HM.out _ (Below.refl _ _)).mono ?_
        rintro e w' ⟨rfl, rfl⟩
        go_wp2_with fail
        refine (word_k u _ _ hu HW.out).mono ?_
        rintro e w' ⟨rfl, rfl⟩
        go_wp2_with fail
        refine (seen_s b g most A u n n true _ H.out hu HNN.out HC3.out).mono ?_
        rintro e w1 ⟨rfl, hb⟩
        have HB := Lib.hid hb
        clear hb
        go_wp2_with fail
        go_ret
        exact ⟨rfl, H.out.step HB.out, grown_below HB.out _⟩
      · rw [if_neg c3] at hr
        have HC3 := Lib.hid (decide_eq_false c3)
        have HRM := Lib.hid (mk_room (n := n) (u := u) H.out.ok)
        obtain ⟨⟨y, C⟩, hmk⟩ : ∃ q, mkR most A u n = q := ⟨_, rfl⟩
        rw [hmk] at hr HRM
        dsimp only at hr HRM
        have HMK := Lib.hid hmk
        clear hmk c3
        cases y with
        | false =>
          rw [if_neg (by decide)] at hr
          injection hr with h1 h2
          subst h1 h2
          clear htb hnb HRM
          go_enter Try.func13, Try.ntmps13
          go_wp2_with fail
          refine (limd_s x t _ HXT.out).mono ?_
          rintro e w' ⟨rfl, rfl⟩
          go_wp2_with fail
          refine (limd_s now n _ HNW.out).mono ?_
          rintro e w' ⟨rfl, rfl⟩
          go_wp2_with fail
          refine (HM.out _ (Below.refl _ _)).mono ?_
          rintro e w' ⟨rfl, rfl⟩
          go_wp2_with fail
          refine (word_k u _ _ hu HW.out).mono ?_
          rintro e w' ⟨rfl, rfl⟩
          go_wp2_with fail
          refine (seen_s b g most A u n n false _ H.out hu HNN.out HC3.out).mono ?_
          rintro e w1 ⟨rfl, hb⟩
          have HB := Lib.hid hb
          clear hb
          go_wp2_with fail
          refine (makeRoom_s b g most A C u n false _ (H.out.step HB.out) hu HNN.out HMK.out).mono ?_
          rintro e w2 ⟨rfl, hx2, hg2⟩
          have HX2 := Lib.hid hx2
          have HG2 := Lib.hid (grown_trans (grown_below HB.out _) hg2)
          clear hx2 hg2
          go_wp2_with fail
          go_ret
          exact ⟨rfl, HX2.out, HG2.out⟩
        | true =>
          rw [if_pos rfl] at hr
          injection hr with h1 h2
          subst h1 h2
          have HRM2 := Lib.hid (HRM.out rfl)
          have HT : Hid (0 < t ∧ t ≤ MT) := Lib.hid ⟨by omega, htb.2⟩
          clear htb hnb HRM
          go_enter Try.func13, Try.ntmps13
          go_wp2_with fail
          refine (limd_s x t _ HXT.out).mono ?_
          rintro e w' ⟨rfl, rfl⟩
          go_wp2_with fail
          refine (limd_s now n _ HNW.out).mono ?_
          rintro e w' ⟨rfl, rfl⟩
          go_wp2_with fail
          refine (HM.out _ (Below.refl _ _)).mono ?_
          rintro e w' ⟨rfl, rfl⟩
          go_wp2_with fail
          refine (word_k u _ _ hu HW.out).mono ?_
          rintro e w' ⟨rfl, rfl⟩
          go_wp2_with fail
          refine (seen_s b g most A u n n false _ H.out hu HNN.out HC3.out).mono ?_
          rintro e w1 ⟨rfl, hb⟩
          have HB := Lib.hid hb
          clear hb
          go_wp2_with fail
          refine (makeRoom_s b g most A C u n true _ (H.out.step HB.out) hu HNN.out HMK.out).mono ?_
          rintro e w2 ⟨rfl, hx2, hg2⟩
          have c2 := hx2.flat.2.2
          obtain ⟨w3, hrun, hm3, hg3⟩ := hx2.map.store (t := 47) (e := 3) Try.underlying47 (by have := hx2.ok.len; have := hx2.m1; unfold maxLen; omega) u (by unfold maxLen; omega) (.int .i64 t)
          have HX3 : Hid (OX w3 b g most (olSet C u t)) := Lib.hid (hx2.to_ hg3 (by
            rw [olSet_len, ← olF_some]
            exact hm3.fn (olF_set C u t)) (hx2.ok.set HW.out HT.out.1 HT.out.2 HRM2.out))
          have HG2 := Lib.hid (grown_trans (grown_trans (grown_below HB.out _) hg2) hg3)
          clear hx2 hg2 hm3 hg3
          go_wp2_with fail
          go_ret
          exact ⟨rfl, HX3.out, HG2.out⟩
theorem use_no (v : Value) (u : ByteArray) (x now : Int) (w : World) (h : NoReg w v) :
    Calls Try.prog 13 #[v, .string u, .int .i64 x, .int .i64 now] w fun e w' => e = .returned (.int .i64 1) ∧ w = w' := by
  have HM := Lib.hid (made_no v w h)
  obtain ⟨t, ht⟩ : ∃ t, limI x = t := ⟨_, rfl⟩
  obtain ⟨n, hn⟩ : ∃ n, limI now = n := ⟨_, rfl⟩
  have HXT := Lib.hid ht
  have HNW := Lib.hid hn
  clear h ht hn
  go_enter Try.func13, Try.ntmps13
  go_wp2_with fail
  refine (limd_s x t _ HXT.out).mono ?_
  rintro e w' ⟨rfl, rfl⟩
  go_wp2_with fail
  refine (limd_s now n _ HNW.out).mono ?_
  rintro e w' ⟨rfl, rfl⟩
  go_wp2_with fail
  refine HM.out.mono ?_
  rintro e w' ⟨rfl, rfl⟩
  go_wp2_with fail
  go_ret
  exact ⟨rfl, rfl⟩
end Go.Proofs.Yteoaekjhicphlaa
