/-
  The specification's locks as they lie in memory, and the contracts of what only reads them: Made, find, Locked, Failures; and NewLocks. Condition: at most 256 users, of each at most 256 failures.
-/
import Derived.Test.YtclecajbcmmddaaSecM
import Derived.Laws.AppendOwnNone
import Derived.BigQuiet
set_option maxRecDepth 100000
set_option linter.unusedVariables false
set_option linter.unusedSimpArgs false
set_option linter.unnecessarySimpa false
namespace Go.Proofs.Ytclecajbcmmddaa
open Go.RowKit Go.PlainAid

/-- a record: the user, the value of the slice of times, the times, the instant -/
structure Rr where
  u : ByteArray
  v : Value
  t : List Int
  n : Int
def rrZ : Rr := ⟨⟨#[]⟩, .slice none 0 0, [], 0⟩
def rrU (r : Rr) : ByteArray × Rc := (r.u, (r.t, r.n))
def rrc (r : Rr) : List Value := [.string r.u, r.v, .int .i64 r.n]
def rrcs (L : List Rr) : List Value := L.flatMap rrc
def rA (L : List Rr) (j : Nat) : Rr := L.getD j rrZ
theorem rA_get {L : List Rr} {j : Nat} (h : j < L.length) : rA L j = L[j] := by unfold rA; rw [List.getD_eq_getElem?_getD, List.getElem?_eq_getElem h]; rfl
theorem rA_mem {L : List Rr} {j : Nat} (h : j < L.length) : rA L j ∈ L := by rw [rA_get h]; exact List.getElem_mem h
theorem rrcs_app (l m : List Rr) : rrcs (l ++ m) = rrcs l ++ rrcs m := by simp [rrcs]
theorem rrcs_len : ∀ l : List Rr, (rrcs l).length = l.length * 3
  | [] => rfl
  | q :: l => by
    have h := rrcs_len l
    have e : rrcs (q :: l) = rrc q ++ rrcs l := rfl
    rw [e, List.length_append, h, List.length_cons]; simp [rrc]; omega
theorem rrcs_at : ∀ (l : List Rr) (j k : Nat), j < l.length → k < 3 → (rrcs l)[j * 3 + k]? = (rrc (rA l j))[k]?
  | [], j, k, h, _ => absurd h (Nat.not_lt_zero _)
  | q :: l, 0, k, h, hk => by
    have e : rrcs (q :: l) = rrc q ++ rrcs l := rfl
    rw [e, Nat.zero_mul, Nat.zero_add, List.getElem?_append_left (by show k < 3; exact hk)]; rfl
  | q :: l, j + 1, k, h, hk => by
    have := rrcs_at l j k (by simpa using h) hk
    have e : rrcs (q :: l) = rrc q ++ rrcs l := rfl
    rw [e, List.getElem?_append_right (by show 3 ≤ _; omega), show (j + 1) * 3 + k - (rrc q).length = j * 3 + k by show (j + 1) * 3 + k - 3 = _; omega, this]; rfl
def lkR (most win lock : Int) (v : Value) : Obj := .cells #[.bool true, .int .i64 most, .int .i64 win, .int .i64 lock, v] 55
/-- the specification's object: its block b, the value v of its slice of records -/
structure RX (W : World) (S : Nat → Prop) (b : Nat) (most win lock : Int) (L : List Rr) (v : Value) : Prop where
  obj : KbC W b (lkR most win lock v)
  sb : S b
  own : W.ownsRow 0 65 3 v L.length (rrcs L)
  ownS : ∀ g, v.ownBlock = some g → S g ∧ g ≠ b
  tm : ∀ r ∈ L, IR W r.v r.t
  tmS : ∀ r ∈ L, ∀ g, r.v.ownBlock = some g → S g ∧ g ≠ b ∧ v.ownBlock ≠ some g
/-- the specification's locks hold the users A -/
def RL (W : World) (S : Nat → Prop) (b : Nat) (most win lock : Int) (A : Us) : Prop := ∃ L v, RX W S b most win lock L v ∧ A = L.map rrU
theorem RX.keep {W V : World} {S : Nat → Prop} {b : Nat} {most win lock : Int} {L : List Rr} {v : Value} (h : RX W S b most win lock L v) (hs : W.heap.size ≤ V.heap.size) (hb : ∀ i, S i → i < W.heap.size → V.heap[i]? = W.heap[i]?) : RX V S b most win lock L v :=
  ⟨(hb b h.sb h.obj.big).trans h.obj, h.sb, by
      have h0 := h.own
      obtain ⟨h1, h2⟩ := h.own
      refine ⟨h1, ?_⟩
      rcases h2 with h2 | ⟨g, cap, cur, rfl, h3, h4, h5⟩
      · exact .inl h2
      · exact .inr ⟨g, cap, cur, rfl, h3, (hb g (h.ownS g rfl).1 (h0.lt g rfl).2).trans h4, h5⟩,
    h.ownS, fun r hr => (h.tm r hr).keep hs fun g e => hb g (h.tmS r hr g e).1 ((h.tm r hr).lt e), h.tmS⟩
theorem RX.step {W V : World} {S : Nat → Prop} {b : Nat} {most win lock : Int} {L : List Rr} {v : Value} (h : RX W S b most win lock L v) (hb : Below W.heap.size W V) : RX V S b most win lock L v := h.keep hb.size fun i _ hi => hb.block i hi
theorem RX.mono {W : World} {S T : Nat → Prop} {b : Nat} {most win lock : Int} {L : List Rr} {v : Value} (h : RX W S b most win lock L v) (hi : ∀ i, S i → T i) : RX W T b most win lock L v :=
  ⟨h.obj, hi _ h.sb, h.own, fun g e => ⟨hi _ (h.ownS g e).1, (h.ownS g e).2⟩, h.tm, fun r hr g e => ⟨hi _ (h.tmS r hr g e).1, (h.tmS r hr g e).2⟩⟩
theorem RL.other {W V : World} {S T : Nat → Prop} {b : Nat} {most win lock : Int} {A : Us} (h : RL W S b most win lock A) (hf : Fo T W V) (hd : ∀ i, S i → ¬ T i) : RL V S b most win lock A := by
  obtain ⟨L, v, h, e⟩ := h; exact ⟨L, v, h.keep hf.size fun i hs hi => hf.block i hi (hd i hs), e⟩
theorem RL.step {W V : World} {S : Nat → Prop} {b : Nat} {most win lock : Int} {A : Us} (h : RL W S b most win lock A) (hb : Below W.heap.size W V) : RL V S b most win lock A := by
  obtain ⟨L, v, h, e⟩ := h; exact ⟨L, v, h.step hb, e⟩
theorem RX.flat {W : World} {S : Nat → Prop} {b : Nat} {most win lock : Int} {L : List Rr} {v : Value} (h : RX W S b most win lock L v) : W.cell? ⟨b, 0, none⟩ = some (.bool true) ∧ W.cell? ⟨b, 1, none⟩ = some (.int .i64 most) ∧ W.cell? ⟨b, 2, none⟩ = some (.int .i64 win) ∧ W.cell? ⟨b, 3, none⟩ = some (.int .i64 lock) ∧ W.cell? ⟨b, 4, none⟩ = some v :=
  ⟨h.obj.cell rfl, h.obj.cell rfl, h.obj.cell rfl, h.obj.cell rfl, h.obj.cell rfl⟩
/-- the slice of records, its cells -/
theorem RX.shape {W : World} {S : Nat → Prop} {b : Nat} {most win lock : Int} {L : List Rr} {v : Value} (h : RX W S b most win lock L v) : ∃ ao cap, v = .slice ao L.length cap ∧ L.length ≤ cap ∧ cap ≤ maxLen ∧ (0 < L.length → ∃ g, ao = some ⟨g, 0, none⟩ ∧ g ≠ b ∧ ∀ j, j < L.length → W.cell? ⟨g, j * 3, none⟩ = some (.string (rA L j).u) ∧ W.cell? ⟨g, j * 3 + 1, none⟩ = some (rA L j).v ∧ W.cell? ⟨g, j * 3 + 2, none⟩ = some (.int .i64 (rA L j).n)) := by
  have h0 := h.own
  obtain ⟨h1, ⟨h2, h3⟩ | ⟨g, cap, cur, rfl, h3, h4, h5, h6, h7, h8⟩⟩ := h.own
  · exact ⟨none, 0, by rw [h2, h3], by omega, Nat.zero_le _, fun q => by omega⟩
  · refine ⟨_, cap, rfl, h5, h6, fun _ => ⟨g, rfl, (h.ownS g rfl).2, fun j hj => ?_⟩⟩
    have c : ∀ k, k < 3 → ∀ u, (rrc (rA L j))[k]? = some u → W.cell? ⟨g, j * 3 + k, none⟩ = some u := fun k hk u hu => by
      have := h0.cells (g := g) rfl (j * 3 + k) u (by rw [rrcs_at L j k hj hk]; exact hu)
      rw [Go.WideShapes.add_plain, Nat.zero_add] at this
      exact this
    exact ⟨c 0 (by omega) _ rfl, c 1 (by omega) _ rfl, c 2 (by omega) _ rfl⟩
/-- where the record of a user stands -/
def ixF (L : List Rr) (u : ByteArray) : Int := match L.findIdx? (fun r => decide (r.u = u)) with
  | some k => (k : Int)
  | none => -1
theorem ixF_hit : ∀ {L : List Rr} {u : ByteArray} {k : Nat}, k < L.length → (rA L k).u = u → (∀ j, j < k → (rA L j).u ≠ u) → ixF L u = (k : Int) := by
  intro L u k hk hu hn
  unfold ixF
  have : L.findIdx? (fun r => decide (r.u = u)) = some k := by
    rw [List.findIdx?_eq_some_iff_getElem]
    refine ⟨hk, by rw [← rA_get hk]; exact decide_eq_true hu, fun j hj => ?_⟩
    have := hn j hj
    rw [rA_get (by omega)] at this
    simpa using this
  rw [this]
theorem ixF_miss {L : List Rr} {u : ByteArray} (h : ∀ j, j < L.length → (rA L j).u ≠ u) : ixF L u = -1 := by
  unfold ixF
  have : L.findIdx? (fun r => decide (r.u = u)) = none := by
    rw [List.findIdx?_eq_none_iff]
    intro r hr
    obtain ⟨j, hj, rfl⟩ := List.mem_iff_getElem.1 hr
    have := h j hj
    rw [rA_get hj] at this
    simpa using this
  rw [this]
theorem usO_first : ∀ {L : List Rr} {u : ByteArray} {k : Nat}, k < L.length → (rA L k).u = u → (∀ j, j < k → (rA L j).u ≠ u) → usO (L.map rrU) u = some ((rA L k).t, (rA L k).n)
  | [], _, _, h, _, _ => absurd h (Nat.not_lt_zero _)
  | r :: L, u, 0, _, hu, _ => by
    have hu : r.u = u := hu
    show (if u = r.u then some (r.t, r.n) else _) = _
    rw [if_pos hu.symm]; rfl
  | r :: L, u, k + 1, h, hu, hn => by
    have h0 : r.u ≠ u := hn 0 (by omega)
    show (if u = r.u then some (r.t, r.n) else usO (L.map rrU) u) = _
    rw [if_neg fun e => h0 e.symm]
    exact usO_first (by simpa using h) hu fun j hj => hn (j + 1) (by omega)
theorem usO_miss {L : List Rr} {u : ByteArray} (h : ∀ j, j < L.length → (rA L j).u ≠ u) : usO (L.map rrU) u = none := by
  rw [usO_none]
  intro p hp
  obtain ⟨r, hr, rfl⟩ := List.mem_map.1 hp
  obtain ⟨j, hj, rfl⟩ := List.mem_iff_getElem.1 hr
  have := h j hj
  rw [rA_get hj] at this
  exact this
/-- a user has a record, the first at k, or none -/
theorem find_cases (L : List Rr) (u : ByteArray) : (∃ k, k < L.length ∧ (rA L k).u = u ∧ (∀ j, j < k → (rA L j).u ≠ u) ∧ ixF L u = (k : Int) ∧ usO (L.map rrU) u = some ((rA L k).t, (rA L k).n)) ∨ ((∀ j, j < L.length → (rA L j).u ≠ u) ∧ ixF L u = -1 ∧ usO (L.map rrU) u = none) := by
  by_cases h : ∃ k, k < L.length ∧ (rA L k).u = u
  · left
    have hf : ∃ k, (k < L.length ∧ (rA L k).u = u) ∧ ∀ j, j < k → ¬ (j < L.length ∧ (rA L j).u = u) := by
      obtain ⟨k, hk⟩ := h
      induction k using Nat.strongRecOn with
      | _ k ih =>
        by_cases q : ∃ j, j < k ∧ (j < L.length ∧ (rA L j).u = u)
        · obtain ⟨j, hj, hj2⟩ := q; exact ih j hj hj2
        · exact ⟨k, hk, fun j hj hj2 => q ⟨j, hj, hj2⟩⟩
    obtain ⟨k, ⟨h1, h2⟩, h3⟩ := hf
    have h4 : ∀ j, j < k → (rA L j).u ≠ u := fun j hj e => h3 j hj ⟨by omega, e⟩
    exact ⟨k, h1, h2, h4, ixF_hit h1 h2 h4, usO_first h1 h2 h4⟩
  · right
    have h4 : ∀ j, j < L.length → (rA L j).u ≠ u := fun j hj e => h ⟨j, hj, e⟩
    exact ⟨h4, ixF_miss h4, usO_miss h4⟩
theorem rmade_k (S : Nat → Prop) (b : Nat) (most win lock : Int) (L : List Rr) (v : Value) (w : World) (h : RX w S b most win lock L v) :
    Calls Try.prog 28 #[.pointer (some ⟨b, 0, none⟩)] w fun e w' => e = .returned (.bool true) ∧ w = w' := by
  obtain ⟨c0, _, _, _, _⟩ := h.flat
  go_enter Try.func28, Try.ntmps28
  go_wp2_with fail
  go_ret
  exact ⟨rfl, rfl⟩
theorem nil_made (w : World) : Calls Try.prog 28 #[.pointer none] w fun e w' => e = .returned (.bool false) ∧ w = w' := by
  go_enter Try.func28, Try.ntmps28
  go_wp2_with fail
  go_ret
  exact ⟨rfl, rfl⟩
theorem rlim_k (t x : Int) (w : World) (hx : limI t = x) :
    Calls Try.prog 23 #[.int .i64 t] w fun e w' => e = .returned (.int .i64 x) ∧ w = w' := by
  have hx2 : max 0 (min t 1099511627776) = x := by unfold limI at hx; omega
  go_enter Try.func23, Try.ntmps23
  go_wp2_with fail
  go_ret
  exact ⟨by rw [← hx2]; rfl, rfl⟩
set_option maxHeartbeats 2000000 in
theorem rfind_k (S : Nat → Prop) (b : Nat) (most win lock : Int) (L : List Rr) (v : Value) (u : ByteArray) (i : Int) (w : World) (h : RX w S b most win lock L v) (hi : ixF L u = i) :
    Calls Try.prog 30 #[.pointer (some ⟨b, 0, none⟩), .string u] w fun e w' => e = .returned (.int .i64 i) ∧ w = w' := by
  have HI := Lib.hid hi
  obtain ⟨c0, c1, c2, c3, c4⟩ := h.flat
  obtain ⟨ao, cap, rfl, h1, h2, h3⟩ := h.shape
  unfold maxLen at h2
  have H3 := Lib.hid h3
  clear h h3 hi c0 c1 c2 c3
  go_enter Try.func30, Try.ntmps30
  go_wp2_with fail
  go_loopw [5] (fun iv wr => ∃ k : Nat, k ≤ L.length ∧ iv = .int .i64 k ∧ Hid (∀ j, j < k → (rA L j).u ≠ u) ∧ wr = w) (fun iv _ => L.length - (intOf iv).toNat)
  case atStart => exact ⟨0, Nat.zero_le _, rfl, Lib.hid fun j hj => absurd hj (Nat.not_lt_zero _), rfl⟩
  case round =>
    obtain ⟨k, hk, rfl, HN, rfl⟩ := hrel
    by_cases hlt : k < L.length
    · obtain ⟨g, rfl, hgb, hc⟩ := H3.out (by omega)
      obtain ⟨d0, _, _⟩ := hc k hlt
      obtain ⟨x, hx⟩ : ∃ x, (rA L k).u = x := ⟨_, rfl⟩
      rw [hx] at d0
      have i1 : (k : Int) < (L.length : Int) := by omega
      clear hc
      by_cases e : x = u
      · subst e
        have q1 : (x.toList == x.toList) = true := beq_self_eq_true _
        have HE := Lib.hid (show i = (k : Int) by rw [← HI.out]; exact ixF_hit hlt hx HN.out)
        clear hx
        go_wp2_with fail
        go_ret
        exact ⟨by rw [HE.out]; rfl, rfl⟩
      · have q1 : (x.toList == u.toList) = false := by
          rw [Lib.toList_data, Lib.toList_data]
          refine beq_false_of_ne fun q => e ?_
          rw [← Lib.mk_data x, ← Lib.mk_data u, q]
        have HN1 : Hid (∀ j, j < k + 1 → (rA L j).u ≠ u) := Lib.hid fun j hj => if q : j = k then by rw [q, hx]; exact e else HN.out j (by omega)
        clear hx
        go_wp2_with fail
        go_roundw
        case rel => exact ⟨k + 1, by omega, by go_num, HN1, (by first | trivial | rfl)⟩
        case measure => simp [intOf]; omega
    · obtain rfl : k = L.length := by omega
      have HE := Lib.hid (show i = -1 by rw [← HI.out]; exact ixF_miss HN.out)
      go_wp2_with fail
      go_ret
      exact ⟨by rw [HE.out]; rfl, rfl⟩
end Go.Proofs.Ytclecajbcmmddaa
