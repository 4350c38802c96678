/-
  Contracts of slices.Clone, and of IndexFunc and DeleteFunc with chosen's second closure over a row of the call's own; chosen, Within. Condition: lists of at most 5000 strings of at most 1000000 bytes.
-/
import Derived.Test.YtminodinhbcgnaaDoorScoE
import Derived.ArgAppend
import Derived.Laws.AppendOwnNone
import Derived.Lib.SliceRun
import Derived.Lib.LazyBuf
set_option maxRecDepth 100000
set_option linter.unusedVariables false
set_option linter.unusedSimpArgs false
set_option linter.unnecessarySimpa false
namespace Go.Proofs.YtminodinhbcgnaaDoor
open Go.RowKit Go.PlainAid Go.Maps Go.ChangeShapes Go.WideShapes Go.ChangeAt

/-- an empty literal of the call's own -/
theorem own_empty (w : World) {B : Nat} (hB : B ≤ w.heap.size) : (w.alloc (.cells #[] 9)).ownsRow B 9 1 (.slice (some ⟨w.heap.size, 0, none⟩) 0 0) 0 [] :=
  World.ownsRow_lit w #[] 0 hB (by decide) rfl
/-- 'l = append(l, s...)' where l is the call's own -/
theorem app_strs {ops : Array Oper} {rest : List Oper} {o : Oper} {a : Act} {Q : Exit → Act → World → Prop} (wr : World) {base : Nat} {v : Value} {n : Nat} {xs : List Value} (hown : wr.ownsRow base 9 1 v n xs) (s x : Operand)
    (ad : Addr) (m c : Nat) (news : List ByteArray) (hgd : o.guard = none)
    (ho : o.op = .call { callee := .builtin .append, args := #[s, x], argTypes := #[22, 22] })
    (hs : a.eval s = v) (hx : a.eval x = .slice (some ad) m c) (hw : StrsAt wr (some ad) m c news) (hn : n + m ≤ 1000000000) (hbase : base ≤ wr.heap.size)
    (h : ∀ v' w', w'.ownsRow base 9 1 v' (n + m) (xs ++ scells news) → Below base wr w' → wpList Tryd.prog ops Q rest (a.put o.dst v') w') :
    wpList Tryd.prog ops Q (o :: rest) a wr := by
  obtain ⟨i0, hi, hz0, hz1, hz2⟩ := info_parts info_string
  obtain ⟨w1, w2, w3, w4⟩ := hw
  have hnews : ∀ j u, (scells news)[j]? = some u → wr.cell? (ad.add j) = some u := by
    intro j u hj
    unfold scells at hj
    have hl : j < news.length := by
      rcases Nat.lt_or_ge j news.length with k | k
      · exact k
      · rw [List.getElem?_eq_none (by simpa using k)] at hj; cases hj
    obtain ⟨b, off, e, hi2⟩ := w4 (by omega)
    cases e
    rw [WideShapes.add_plain, hi2.2 j hl]
    rw [List.getElem?_map, List.getElem?_eq_getElem hl] at hj
    rw [← hj, part_get hl]; rfl
  refine wpList_append_own _ hgd s x 22 ho base 9 i0 (.string ⟨#[]⟩) 1 16 Tryd.underlying22 hi hz0 hz1 hz2 rfl (by decide) v n xs hs hown ad m c (scells news) hx (by unfold scells; rw [List.length_map, w1]; omega) hnews
    (by intro u hu; unfold scells at hu; obtain ⟨q, _, rfl⟩ := List.mem_map.1 hu; rfl) (by unfold maxLen; omega) (by omega) hbase ?_
  intro v' w' h1 h2 _
  exact h v' w' h1 ((Below.refl base wr).grown h2 hbase (fun k hk => (hown.lt k hk).1))
theorem own_nil (w : World) (B : Nat) : w.ownsRow B 9 1 (.slice none 0 0) 0 [] := ⟨rfl, .inl ⟨rfl, rfl⟩⟩
theorem nil_no (ad : Addr) (n cap : Nat) (w : World) : Sem.run Tryd.prog (binOp BinOp.eql 22 (.slice (some ad) n cap) (.slice none 0 0)) w = Result.ok (.bool false) w := by kernel_rfl
theorem nil_yes (cap : Nat) (w : World) : Sem.run Tryd.prog (binOp BinOp.eql 22 (.slice none 0 cap) (.slice none 0 0)) w = Result.ok (.bool true) w := by kernel_rfl
set_option maxHeartbeats 2000000 in
theorem clone_k (ao : Option Addr) (n cap : Nat) (l : List ByteArray) (w : World) (h : StrsAt w ao n cap l) (hn : n ≤ 1000000) :
    Calls Tryd.prog 59 #[.slice ao n cap] w fun e w' => ∃ v', e = .returned v' ∧ w'.ownsRow w.heap.size 9 1 v' n (scells l) ∧ Below w.heap.size w w' := by
  cases ao with
  | none =>
    have h0 : n = 0 := by
      rcases Nat.eq_zero_or_pos n with e | e
      · exact e
      · obtain ⟨_, _, e, _⟩ := h.2.2.2 e; cases e
    subst h0
    have hl : l = [] := List.length_eq_zero_iff.1 h.1
    subst hl
    clear h
    have HO := Lib.hid (own_nil w w.heap.size)
    go_enter Tryd.func59, Tryd.ntmps59
    go_wp2_with fail
    rw [nil_yes]
    go_simp
    go_wp2_with fail
    go_ret
    exact ⟨_, rfl, HO.out, Below.refl _ _⟩
  | some ad =>
    have hb := box_below w (.cells #[] 9)
    have H := Lib.hid (StrsAt.below h hb)
    have HB := Lib.hid hb
    have HO := Lib.hid (own_empty w (Nat.le_refl w.heap.size))
    have hs : w.heap.size ≤ (w.alloc (.cells #[] 9)).heap.size := hb.size
    clear h hb
    go_enter Tryd.func59, Tryd.ntmps59
    go_wp2_with fail
    rw [nil_no]
    go_simp
    go_wp2_with (at_builtin; refine app_strs _ HO.out (.tmp 5) (.tmp 6) ad n cap l ?_ ?_ ?_ ?_ ?_ ?_ ?_ ?_; exact rfl; exact rfl; exact rfl; exact rfl; exact H.out; omega; exact hs; intro v5 w5 hown5 hb5)
    go_ret
    exact ⟨_, rfl, by simpa using hown5, HB.out.trans hb5⟩

theorem own_cut1 {w : World} {base g cap n : Nat} {xs : List Value} (h : w.ownsRow base 9 1 (.slice (some ⟨g, 0, none⟩) n cap) n xs) (i : Nat) (hi : i ≤ n) :
    w.ownsRow base 9 1 (.slice (some ⟨g, 0, none⟩) i cap) i (xs.take i) := by
  obtain ⟨hl, ⟨he, _⟩ | ⟨g', cap', cur, he, h2, h3, h4, h5, h6, h7⟩⟩ := h
  · cases he
  · cases he
    refine ⟨by rw [List.length_take, hl]; omega, .inr ⟨g, cap, cur, rfl, h2, h3, by omega, h5, h6, ?_⟩⟩
    rw [← h7, List.take_take, Nat.min_eq_left (by omega), Nat.mul_one]
/-- cells stored behind place o -/
theorem own_setCells {base g cap n : Nat} : ∀ (vs : List Value) (w : World) (o : Nat) (xs : List Value), w.ownsRow base 9 1 (.slice (some ⟨g, 0, none⟩) n cap) n xs →
    ∃ ys, (w.setCells g o vs).ownsRow base 9 1 (.slice (some ⟨g, 0, none⟩) n cap) n ys ∧ ∀ i, i ≤ o → ys.take i = xs.take i
  | [], w, o, xs, h => ⟨xs, h, fun _ _ => rfl⟩
  | v :: vs, w, o, xs, h => by
    obtain ⟨ys, h1, h2⟩ := own_setCells vs (w.setCell ⟨g, o, none⟩ v) (o + 1) (xs.set o v) (h.stored o v).1
    refine ⟨ys, h1, fun i hi => ?_⟩
    rw [h2 i (by omega)]
    apply List.ext_getElem?
    intro j
    rw [List.getElem?_take, List.getElem?_take]
    split
    · rw [List.getElem?_set, if_neg (by omega)]
    · rfl

theorem own_cellS {w : World} {base g cap n : Nat} {l : List ByteArray} (h : w.ownsRow base 9 1 (.slice (some ⟨g, 0, none⟩) n cap) n (scells l)) (hl : l.length = n) (k : Nat) (hk : k < n) : w.cell? ⟨g, k, none⟩ = some (.string (partAt l k)) := by
  rw [h.cellAt k (by omega)]
  unfold scells
  rw [List.getElem?_map, part_get (by omega), List.getElem?_eq_getElem (by omega)]; rfl
set_option maxHeartbeats 4000000 in
theorem idxo_k (base g n cap b8 b5 : Nat) (f : ByteArray → Bool) (l : List ByteArray) (r : Int) (w0 w : World) (hown : w.ownsRow base 9 1 (.slice (some ⟨g, 0, none⟩) n cap) n (scells l)) (hl : l.length = n) (hn : n ≤ 5000) (hs : ∀ s ∈ l, s.size ≤ 1000000)
    (hb0 : Below base w0 w) (hbase : base ≤ w.heap.size) (HP : Hid (∀ (W : World) (p : ByteArray), p.size ≤ 1000000 → Below base w0 W → Calls Tryd.prog 56 #[.string p, .pointer (some ⟨b8, 0, none⟩), .pointer (some ⟨b5, 0, none⟩)] W fun e w' => e = .returned (.bool (f p)) ∧ Below W.heap.size W w')) (hr : fstI f l = r) :
    Calls Tryd.prog 81 #[.slice (some ⟨g, 0, none⟩) n cap, .func (.func 56) #[] #[.pointer (some ⟨b8, 0, none⟩), .pointer (some ⟨b5, 0, none⟩)]] w fun e w' => e = .returned (.int .i64 r) ∧ Below w.heap.size w w' := by
  subst hl
  have HO := Lib.hid hown
  have HS := Lib.hid hs
  have HB0 := Lib.hid hb0
  have HR := Lib.hid hr
  clear hown hs hb0 hr
  go_enter Tryd.func81, Tryd.ntmps81
  go_wp2
  go_loopw [8] (fun i wr => ∃ k : Nat, k ≤ l.length ∧ i = .int .i64 k ∧ Hid (∀ j, j < k → f (partAt l j) = false) ∧ Hid (Below w.heap.size w wr)) (fun i _ => l.length - (intOf i).toNat)
  case atStart => exact ⟨0, Nat.zero_le _, rfl, Lib.hid (fun j hj => absurd hj (Nat.not_lt_zero _)), Lib.hid (Below.refl _ _)⟩
  case round =>
    obtain ⟨k, hk, rfl, HA, HB⟩ := hrel
    by_cases hlt : k < l.length
    · have hcell := own_cellS (own_below HO.out HB.out) rfl k hlt
      obtain ⟨p, hpe⟩ : ∃ p, p = partAt l k := ⟨_, rfl⟩
      rw [← hpe] at hcell
      have HPe := Lib.hid hpe
      have hz : p.size ≤ 1000000 := by rw [hpe]; exact HS.out _ (part_mem l k hlt)
      clear hpe
      have d1 : (k : Int) < (l.length : Int) := by omega
      have HC := Lib.hid (HP.out wr p hz (HB0.out.trans (HB.out.mono hbase)))
      obtain ⟨y, hy⟩ : ∃ y, f p = y := ⟨_, rfl⟩
      rw [hy] at HC
      cases y with
      | true =>
        have HE := Lib.hid (show r = (k : Int) by rw [← HR.out]; exact fstI_at hlt (by rw [← HPe.out]; exact hy) HA.out)
        clear hy
        go_wp2_with fail
        refine HC.out.mono ?_
        rintro e w2 ⟨rfl, hb2⟩
        have HB2 := Lib.hid (HB.out.trans (hb2.mono HB.out.size))
        clear hb2
        go_wp2_with fail
        go_ret
        exact ⟨by rw [HE.out]; rfl, HB2.out⟩
      | false =>
        have HN := Lib.hid hy
        clear hy
        go_wp2_with fail
        refine HC.out.mono ?_
        rintro e w2 ⟨rfl, hb2⟩
        have HB2 := Lib.hid (HB.out.trans (hb2.mono HB.out.size))
        clear hb2
        go_wp2_with fail
        go_roundw
        case rel =>
          refine ⟨k + 1, by omega, by go_num, Lib.hid fun j hj => ?_, HB2⟩
          by_cases e : j = k
          · rw [e, ← HPe.out]; exact HN.out
          · exact HA.out j (by omega)
        case measure => simp [intOf]; omega
    · have HE := Lib.hid (show r = -1 by rw [← HR.out]; exact fstI_no (fstI_none fun j hj => HA.out j (by omega)))
      have d1 : ¬ (k : Int) < (l.length : Int) := by omega
      go_wp2_with fail
      go_ret
      exact ⟨by rw [HE.out]; rfl, HB.out⟩
theorem part_set (u : List ByteArray) (i j : Nat) (p : ByteArray) (h : i < u.length) : partAt (u.set i p) j = if j = i then p else partAt u j := by
  unfold partAt
  rw [List.getD_eq_getElem?_getD, List.getD_eq_getElem?_getD, List.getElem?_set]
  by_cases e : i = j
  · subst e; rw [if_pos rfl, if_pos h, if_pos rfl]; rfl
  · rw [if_neg e, if_neg (fun x => e x.symm)]
theorem take_set_snoc (u : List ByteArray) (i : Nat) (p : ByteArray) (h : i < u.length) : (u.set i p).take (i + 1) = u.take i ++ [p] := by
  rw [take_snoc _ _ (by rw [List.length_set]; exact h), part_set _ _ _ _ h, if_pos rfl, List.take_set_of_le (Nat.le_refl _)]
theorem filter_snoc (f : ByteArray → Bool) (l : List ByteArray) (p : ByteArray) : (l ++ [p]).filter (fun s => !f s) = if f p = true then l.filter (fun s => !f s) else l.filter (fun s => !f s) ++ [p] := by
  rw [List.filter_append]
  cases h : f p <;> simp [h]
theorem scells_set (u : List ByteArray) (i : Nat) (p : ByteArray) : scells (u.set i p) = (scells u).set i (.string p) := by unfold scells; rw [List.map_set]
theorem scells_take (u : List ByteArray) (i : Nat) : (scells u).take i = scells (u.take i) := by unfold scells; rw [List.map_take]
theorem scells_len (u : List ByteArray) : (scells u).length = u.length := by unfold scells; rw [List.length_map]
theorem zero_s (w : World) : (zeroValue 9).run Tryd.prog w = .ok (.string ⟨#[]⟩) w := by rfl
set_option maxHeartbeats 8000000 in
theorem delo_k (base g n cap b8 b5 : Nat) (f : ByteArray → Bool) (l : List ByteArray) (w0 w : World) (hown : w.ownsRow base 9 1 (.slice (some ⟨g, 0, none⟩) n cap) n (scells l)) (hl : l.length = n) (hn : n ≤ 5000) (hs : ∀ s ∈ l, s.size ≤ 1000000)
    (hb0 : Below base w0 w) (hbase : base ≤ w.heap.size) (hg : base ≤ g) (HP : Hid (∀ (W : World) (p : ByteArray), p.size ≤ 1000000 → Below base w0 W → Calls Tryd.prog 56 #[.string p, .pointer (some ⟨b8, 0, none⟩), .pointer (some ⟨b5, 0, none⟩)] W fun e w' => e = .returned (.bool (f p)) ∧ Below W.heap.size W w')) :
    Calls Tryd.prog 58 #[.slice (some ⟨g, 0, none⟩) n cap, .func (.func 56) #[] #[.pointer (some ⟨b8, 0, none⟩), .pointer (some ⟨b5, 0, none⟩)]] w fun e w' => ∃ m, e = .returned (.slice (some ⟨g, 0, none⟩) m cap) ∧ w'.ownsRow base 9 1 (.slice (some ⟨g, 0, none⟩) m cap) m (scells (l.filter fun s => !f s)) ∧ Below base w0 w' := by
  have hcap : n ≤ cap ∧ cap ≤ maxLen := by
    obtain ⟨_, ⟨he, _⟩ | ⟨g', cap', cur, he, _, _, h4, h5, _⟩⟩ := hown
    · cases he
    · cases he; exact ⟨h4, h5⟩
  have HL := Lib.hid hl
  have HS := Lib.hid hs
  have HB0 := Lib.hid hb0
  have hgl := (hown.lt g rfl).2
  cases hany : l.any f with
  | false =>
    have HI := Lib.hid (idxo_k base g n cap b8 b5 f l (-1) w0 w hown hl hn hs hb0 hbase HP (fstI_no hany))
    have HF := Lib.hid (show (l.filter fun s => !f s) = l by
      rw [List.filter_eq_self]
      intro p hp
      have := List.any_eq_false.1 hany p hp
      simpa using this)
    have H := Lib.hid hown
    clear hown hany hs hb0 hl
    go_enter Tryd.func58, Tryd.ntmps58
    go_wp2_with fail
    refine HI.out.mono ?_
    rintro e w1 ⟨rfl, hb⟩
    have HB := Lib.hid hb
    clear hb
    go_wp2_with fail
    go_ret
    exact ⟨n, rfl, by rw [HF.out]; exact own_below H.out HB.out, HB0.out.trans (HB.out.mono hbase)⟩
  | true =>
    obtain ⟨k0, hk0⟩ := fstI_yes hany
    have hlt0 : l.findIdx f < l.length := List.findIdx_lt_length.2 (by rw [List.any_eq_true] at hany; exact hany)
    have hk1 : k0 = l.findIdx f := by
      unfold fstI at hk0
      rw [if_pos hany] at hk0
      exact (Int.ofNat.inj hk0).symm
    have HI := Lib.hid (idxo_k base g n cap b8 b5 f l k0 w0 w hown hl hn hs hb0 hbase HP hk0)
    have hhit : f (partAt l k0) = true := by rw [part_get (by omega)]; simp only [hk1]; exact List.findIdx_getElem
    have hmiss : ∀ j, j < k0 → f (partAt l j) = false := fun j hj => by
      rw [part_get (by omega)]
      have := List.not_of_lt_findIdx (p := f) (xs := l) (i := j) (by omega)
      simpa using this
    have HF := Lib.hid (show l.take k0 = (l.take (k0 + 1)).filter fun s => !f s by
      rw [take_snoc _ _ (by omega), filter_snoc, if_pos hhit, eq_comm, List.filter_eq_self]
      intro p hp
      obtain ⟨j, hj, rfl⟩ := List.getElem_of_mem hp
      rw [List.length_take] at hj
      have := hmiss j (by omega)
      rw [part_get (by omega)] at this
      rw [List.getElem_take, this]; rfl)
    have H := Lib.hid hown
    have hkn : k0 < n := by omega
    have hne1 : ((k0 : Int) == -1) = false := beq_eq_false_iff_ne.2 (by omega)
    clear hown hany hk0 hk1 hlt0 hhit hmiss hs hb0 hl
    go_enter Tryd.func58, Tryd.ntmps58
    go_wp2_with fail
    refine HI.out.mono ?_
    rintro e w1 ⟨rfl, hb⟩
    have HB1 := Lib.hid (HB0.out.trans (hb.mono hbase))
    have HO1 := Lib.hid (own_below H.out hb)
    have hz1 : base ≤ w1.heap.size := Nat.le_trans hbase hb.size
    clear hb H HI
    go_wp2_with fail
    go_loopw [5, 6] (fun iv jv wr => ∃ (i j : Nat) (u : List ByteArray), iv = .int .i64 i ∧ jv = .int .i64 j ∧ i < j ∧ j ≤ n ∧ u.length = n ∧ base ≤ wr.heap.size ∧ Hid (wr.ownsRow base 9 1 (.slice (some ⟨g, 0, none⟩) n cap) n (scells u)) ∧ Hid (u.take i = (l.take j).filter fun s => !f s) ∧ Hid (∀ x, j ≤ x → partAt u x = partAt l x) ∧ Hid (Below base w0 wr)) (fun _ jv _ => n - (intOf jv).toNat)
    case atStart => exact ⟨k0, k0 + 1, l, rfl, by go_num, by omega, by omega, HL.out, hz1, HO1, HF, Lib.hid fun _ _ => rfl, HB1⟩
    case round =>
      obtain ⟨i, j, u, rfl, rfl, hij, hjn, hul, hzr, HO, HT, HR, HB⟩ := hrel
      have HUL := Lib.hid hul
      clear hul
      have j0 : (0 : Int) ≤ (j : Int) := by omega
      have i0 : (0 : Int) ≤ (i : Int) := by omega
      have i1 : (i : Int) < (n : Int) := by omega
      by_cases hlt : j < n
      · have j1 : (j : Int) < (n : Int) := by omega
        have hcell := own_cellS HO.out HUL.out j hlt
        obtain ⟨p, hpe⟩ : ∃ p, partAt u j = p := ⟨_, rfl⟩
        rw [hpe] at hcell
        have hpl : partAt l j = p := by rw [← HR.out j (Nat.le_refl _), hpe]
        have hz : p.size ≤ 1000000 := by rw [← hpl]; exact HS.out _ (part_mem l j (by have := HL.out; omega))
        have HFN := Lib.hid (show ((l.take (j + 1)).filter fun s => !f s) = if f p = true then u.take i else u.take i ++ [p] by
          rw [take_snoc _ _ (by have := HL.out; omega), filter_snoc, ← HT.out, hpl])
        clear hpe hpl
        have HC := Lib.hid (HP.out wr p hz HB.out)
        obtain ⟨y, hy⟩ : ∃ y, f p = y := ⟨_, rfl⟩
        rw [hy] at HC HFN
        clear hy
        cases y with
        | true =>
          have HN := Lib.hid (show u.take i = (l.take (j + 1)).filter fun s => !f s by rw [HFN.out, if_pos rfl])
          go_wp2_with fail
          refine HC.out.mono ?_
          rintro e w2 ⟨rfl, hb2⟩
          have HO2 := Lib.hid (own_below HO.out hb2)
          have HB2 := Lib.hid (HB.out.trans (hb2.mono hzr))
          have hz2 : base ≤ w2.heap.size := Nat.le_trans hzr hb2.size
          clear hb2
          go_wp2_with fail
          go_roundw
          case rel => exact ⟨i, j + 1, u, rfl, by go_num, by omega, by omega, HUL.out, hz2, HO2, HN, Lib.hid fun z hz => HR.out z (by omega), HB2⟩
          case measure => simp [intOf]; omega
        | false =>
          have HN := Lib.hid (show (u.set i p).take (i + 1) = (l.take (j + 1)).filter fun s => !f s by
            rw [HFN.out, if_neg Bool.false_ne_true, take_set_snoc _ _ _ (by have := HUL.out; omega)])
          go_wp2_with fail
          refine HC.out.mono ?_
          rintro e w2 ⟨rfl, hb2⟩
          have HO2 := Lib.hid (own_below HO.out hb2)
          have HB2 := Lib.hid (HB.out.trans (hb2.mono hzr))
          have hz2 : base ≤ w2.heap.size := Nat.le_trans hzr hb2.size
          clear hb2 hcell
          have e1 := own_cellS HO2.out HUL.out i (by omega)
          have f1 : w2.frozen? ⟨g, i, none⟩ = false := HO2.out.frozenAt _
          go_wp2_with fail
          go_roundw
          case rel => exact ⟨i + 1, j + 1, u.set i p, by go_num, by go_num, by omega, by omega, by rw [List.length_set]; exact HUL.out, (show base ≤ (w2.setCell ⟨g, i, none⟩ (.string p)).heap.size by simp [World.setCell]; exact hz2), Lib.hid (by
            rw [scells_set u i p]
            exact (HO2.out.stored i (.string p)).1), HN, Lib.hid (fun z hz => by
            rw [part_set _ _ _ _ (by have := HUL.out; omega), if_neg (by omega)]
            exact HR.out z (by omega)), Lib.hid (HB2.out.setCell (p := ⟨g, i, none⟩) hg _)⟩
          case measure => simp [intOf]; omega
      · obtain rfl : j = n := by omega
        have HFI := Lib.hid (show u.take i = l.filter fun s => !f s by rw [HT.out, List.take_of_length_le (by have := HL.out; omega)])
        obtain ⟨hc1, hc2⟩ := hcap
        have hcl := fun ty => Lib.run_clear_slice wr 22 9 ty (.string ⟨#[]⟩) Tryd.underlying22 zero_s rfl rfl g i (j - i) (cap - i) (by omega) (fun z hz => by
          rw [own_cellS HO.out HUL.out (i + z) (by omega)]; rfl) (fun z hz => HO.out.frozenAt _)
        unfold maxLen at hc2
        have k1 : (i : Int) ≤ (j : Int) := by omega
        have k2 : (i : Int) ≤ (cap : Int) := by omega
        have k3 : (i : Int) < (cap : Int) := by omega
        have HOZ := Lib.hid (own_setCells (List.replicate (j - i) (.string ⟨#[]⟩)) wr i (scells u) HO.out)
        have HBZ := Lib.hid (Go.below_setCells hg (List.replicate (j - i) (.string ⟨#[]⟩)) i wr HB.out)
        have j2 : ¬ (j : Int) < (j : Int) := by omega
        go_wp2_with fail
        go_ret
        obtain ⟨ys, h1, h2⟩ := HOZ.out
        have h3 := own_cut1 h1 i (by omega)
        rw [h2 i (Nat.le_refl _), scells_take, HFI.out] at h3
        exact ⟨i, rfl, h3, HBZ.out⟩
theorem idxnil_k (fv : Value) (cap : Nat) (w : World) :
    Calls Tryd.prog 81 #[.slice none 0 cap, fv] w fun e w' => e = .returned (.int .i64 (-1)) ∧ w = w' := by
  go_enter Tryd.func81, Tryd.ntmps81
  go_wp2
  refine wp_loop_rounds 1 ?_
  rw [rounds_succ]
  go_wp2
  go_ret
  exact ⟨rfl, rfl⟩
theorem delnil_k (fv : Value) (w : World) :
    Calls Tryd.prog 58 #[.slice none 0 0, fv] w fun e w' => e = .returned (.slice none 0 0) ∧ w = w' := by
  go_enter Tryd.func58, Tryd.ntmps58
  go_wp2_with fail
  refine (idxnil_k _ _ _).mono ?_
  rintro e w' ⟨rfl, rfl⟩
  go_wp2_with fail
  go_ret
  exact ⟨rfl, rfl⟩

end Go.Proofs.YtminodinhbcgnaaDoor
