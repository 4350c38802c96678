/-
  Contracts of the specification's NewLocks and Clear. Condition: at most 256 users.
-/
import Derived.Test.YtclecajbcmmddaaSlkB
import Derived.Deep.RegionLaw
import Derived.Deep.RegionHeld3
set_option maxRecDepth 100000
set_option linter.unusedVariables false
set_option linter.unusedSimpArgs false
set_option linter.unnecessarySimpa false
namespace Go.Proofs.Ytclecajbcmmddaa
open Go.RowKit Go.PlainAid

theorem step_append_own_at {ops : Array Oper} {o : Oper} {a : Act} {w : World} {K : Act → World → Prop} {Q : Exit → Act → World → Prop} {E : Prop} (hgd : o.guard = none) (s x : Operand) (t : TypeId)
    (ho : o.op = .call { callee := .builtin .append, args := #[s, x], argTypes := #[t, t] })
    (base : Nat) (e : TypeId) (i : TypeInfo) (z : Value) (size bytes : Nat) (ht : Try.prog.underlying t = some (.slice e)) (hi : Try.prog.info? e = some i) (hz : i.zero = some z)
    (hsize : i.size = size) (hby : i.bytes = bytes) (hzs : z.cells.size = size) (hsz : 0 < size)
    (v : Value) (n : Nat) (xs : List Value) (hs : a.eval s = v) (hown : w.ownsRow base e size v n xs)
    (ad : Addr) (m c : Nat) (news : List Value) (hx : a.eval x = .slice (some ad) m c) (hl : news.length = m * size) (hnews : ∀ j u, news[j]? = some u → w.cell? (ad.add j) = some u) (h1 : ∀ u ∈ news, u.oneCell' = true)
    (h63 : n + m ≤ maxLen) (hbytes : (n + m) * bytes ≤ 140737488355328) (hbase : base ≤ w.heap.size)
    (h : ∀ v' w', w'.ownsRow base e size v' (n + m) (xs ++ news) → w.grownBy w' v.ownBlock → (v'.ownBlock = v.ownBlock ∨ v'.ownBlock = some w.heap.size) → K (a.put o.dst v') w') :
    if Region.wanted o (yielded ops a.tmps) = true then Oper.wp Try.prog o a w K Q else E := by
  have hw : Region.wanted o (yielded ops a.tmps) = true := by simp [Region.wanted, hgd]
  rw [if_pos hw]
  obtain ⟨v', w', hr, h2, h3, _, h5⟩ := run_append_own_at (P := Try.prog) w base t o.type e i z size bytes ht hi hz hsize hby hzs hsz v n xs hown ad m c news hl hnews h1 h63 hbytes hbase
  unfold Oper.wp execOp
  simp only [ho, resolve, invoke, builtin, Sem.run_bind, Sem.run_pure, Result.andThen_ok, List.map_toArray, List.map_cons, List.map_nil, hs, hx, hr]
  exact h v' w' h2 h3 h5
theorem row_slice {w : World} {base : Nat} {e : TypeId} {size : Nat} {v : Value} {n : Nat} {xs : List Value} (h : w.ownsRow base e size v n xs) : ∃ ao cap, v = .slice ao n cap := by
  rcases h.2 with ⟨rfl, rfl⟩ | ⟨g, cap, cur, rfl, _⟩
  · exact ⟨_, _, rfl⟩
  · exact ⟨_, _, rfl⟩
theorem info_rr : (Try.prog.info? 65).map (fun i => (i.zero, i.size, i.bytes)) = some (some (.agg #[.string ⟨#[]⟩, .slice none 0 0, .int .i64 0]), 3, 48) := by kernel_rfl
theorem rr_parts {t : TypeId} {z : Value} {n b : Nat} (h : (Try.prog.info? t).map (fun i => (i.zero, i.size, i.bytes)) = some (some z, n, b)) : ∃ i, Try.prog.info? t = some i ∧ i.zero = some z ∧ i.size = n ∧ i.bytes = b := by
  cases hi : Try.prog.info? t with
  | none => rw [hi] at h; cases h
  | some i =>
    rw [hi] at h
    simp only [Option.map_some, Option.some.injEq, Prod.mk.injEq] at h
    exact ⟨i, rfl, h.1, h.2.1, h.2.2⟩
/-- an append of records within a drawn region -/
theorem step_app_r {ops : Array Oper} {o : Oper} {a : Act} {K : Act → World → Prop} {Q : Exit → Act → World → Prop} {E : Prop} (wr : World) {base : Nat} {v : Value} {n : Nat} {xs : List Value} (hown : wr.ownsRow base 65 3 v n xs) (s x : Operand)
    (ad : Addr) (m c : Nat) (news : List Value) (hlen : news.length = m * 3) (hnews : ∀ j u, news[j]? = some u → wr.cell? (ad.add j) = some u) (hone : ∀ u ∈ news, u.oneCell' = true) (hgd : o.guard = none)
    (ho : o.op = .call { callee := .builtin .append, args := #[s, x], argTypes := #[53, 53] })
    (hs : a.eval s = v) (hx : a.eval x = .slice (some ad) m c) (hn : n + m ≤ 1000000000) (hbase : base ≤ wr.heap.size)
    (h : ∀ v' w', w'.ownsRow base 65 3 v' (n + m) (xs ++ news) → Hid (wr.grownBy w' v.ownBlock) → K (a.put o.dst v') w') :
    if Region.wanted o (yielded ops a.tmps) = true then Oper.wp Try.prog o a wr K Q else E := by
  obtain ⟨i0, hi, hz0, hz1, hz2⟩ := rr_parts info_rr
  refine step_append_own_at hgd s x 53 ho base 65 i0 (.agg #[.string ⟨#[]⟩, .slice none 0 0, .int .i64 0]) 3 48 Try.underlying53 hi hz0 hz1 hz2 rfl (by decide) v n xs hs hown ad m c news hx hlen hnews hone (by unfold maxLen; omega) (by omega) hbase ?_
  intro v' w' h1 h2 _
  exact h v' w' h1 (Lib.hid h2)
theorem rr_empty (w : World) : (w.alloc (.cells #[] 65)).ownsRow w.heap.size 65 3 (.slice (some ⟨w.heap.size, 0, none⟩) 0 0) 0 [] :=
  ⟨rfl, .inr ⟨w.heap.size, 0, #[], rfl, Nat.le_refl _, heap_alloc_new w _, Nat.le_refl _, by unfold maxLen; omega, rfl, rfl⟩⟩
theorem clear_at {L : List Rr} {u : ByteArray} {k : Nat} (hu : UsN (L.map rrU)) (h : k < L.length) (hk : (rA L k).u = u) : clearA (L.map rrU) u = (L.take k ++ L.drop (k + 1)).map rrU := by
  have hp : ∀ j, j < L.length → j ≠ k → (rA L j).u ≠ u := fun j hj hne e => by
    have hu2 : ((L.map rrU).map Prod.fst).Pairwise (· ≠ ·) := hu
    rw [List.map_map, List.pairwise_map, List.pairwise_iff_getElem] at hu2
    rw [← hk, rA_get hj, rA_get h] at e
    rcases Nat.lt_or_ge j k with q | q
    · exact hu2 j k hj h q e
    · exact hu2 k j h hj (by omega) e.symm
  have hl : L = L.take k ++ rA L k :: L.drop (k + 1) := by
    rw [rA_get h, ← List.drop_eq_getElem_cons h, List.take_append_drop]
  have h1 : ∀ r ∈ L.take k, decide (r.u ≠ u) = true := fun r hr => by
    obtain ⟨j, hj, rfl⟩ := List.mem_iff_getElem.1 hr
    rw [List.length_take] at hj
    rw [List.getElem_take, ← rA_get (by omega)]
    exact decide_eq_true (hp j (by omega) (by omega))
  have h2 : ∀ r ∈ L.drop (k + 1), decide (r.u ≠ u) = true := fun r hr => by
    obtain ⟨j, hj, rfl⟩ := List.mem_iff_getElem.1 hr
    rw [List.length_drop] at hj
    rw [List.getElem_drop, ← rA_get (by omega)]
    exact decide_eq_true (hp (k + 1 + j) (by omega) (by omega))
  have hf : clearA (L.map rrU) u = (L.filter fun r => decide (r.u ≠ u)).map rrU := by
    unfold clearA
    rw [List.filter_map]; rfl
  rw [hf]
  congr 1
  conv => lhs; rw [hl]
  rw [List.filter_append, List.filter_cons_of_neg (by simp [hk]), List.filter_eq_self.2 h1, List.filter_eq_self.2 h2]
theorem clear_none {L : List Rr} {u : ByteArray} (h : ∀ j, j < L.length → (rA L j).u ≠ u) : clearA (L.map rrU) u = L.map rrU := by
  unfold clearA
  rw [List.filter_eq_self]
  intro p hp
  obtain ⟨r, hr, rfl⟩ := List.mem_map.1 hp
  obtain ⟨j, hj, rfl⟩ := List.mem_iff_getElem.1 hr
  have := h j hj
  rw [rA_get hj] at this
  exact decide_eq_true this
theorem rr_new (w : World) (most x y : Int) : RX (w.alloc (lkR most x y (.slice none 0 0))) (fun i => w.heap.size ≤ i ∧ i < w.heap.size + 1) w.heap.size most x y [] (.slice none 0 0) :=
  ⟨kbc_new w _, ⟨Nat.le_refl _, (by omega)⟩, World.ownsRow_nil _ _ _ _, (fun g e => by cases e), (fun r hr => by cases hr), (fun r hr => by cases hr)⟩
set_option maxHeartbeats 2000000 in
theorem rnew_k (most win lock x y : Int) (w : World) (hx : limI win = x) (hy : limI lock = y) (h : LkN most x y) :
    Calls Try.prog 7 #[.int .i64 most, .int .i64 win, .int .i64 lock] w fun e w' => e = .returned (.tuple #[.pointer (some ⟨w.heap.size, 0, none⟩), .int .i64 0]) ∧ RL w' (fun i => w.heap.size ≤ i ∧ i < w.heap.size + 1) w.heap.size most x y [] ∧ w' = w.alloc (lkR most x y (.slice none 0 0)) := by
  have HX := Lib.hid hx
  have HY := Lib.hid hy
  obtain ⟨m0, m1, w0, w1, l0, l1⟩ := h
  have HN := Lib.hid (rr_new w most x y)
  clear hx hy
  have d1 : decide (most < 1) = false := decide_eq_false (by omega)
  have d2 : decide ((256 : Int) < most) = false := decide_eq_false (by omega)
  have d3 : decide (x < 1) = false := decide_eq_false (by omega)
  have d4 : decide (y < 1) = false := decide_eq_false (by omega)
  unfold lkR at HN ⊢
  go_enter Try.func7, Try.ntmps7
  go_wp2_with fail
  refine (rlim_k win x _ HX.out).mono ?_
  rintro e w' ⟨rfl, rfl⟩
  go_wp2_with fail
  refine (rlim_k lock y _ HY.out).mono ?_
  rintro e w' ⟨rfl, rfl⟩
  go_wp2_with fail
  go_ret2
  exact ⟨rfl, ⟨[], _, HN.out, rfl⟩, rfl⟩
set_option maxHeartbeats 2000000 in
theorem rnew_bad (most win lock : Int) (w : World) (h : lkOk most win lock = false) :
    Calls Try.prog 7 #[.int .i64 most, .int .i64 win, .int .i64 lock] w fun e w' => e = .returned (.tuple #[.pointer none, .int .i64 2]) ∧ w = w' := by
  obtain ⟨x, hx⟩ : ∃ x, limI win = x := ⟨_, rfl⟩
  obtain ⟨y, hy⟩ : ∃ y, limI lock = y := ⟨_, rfl⟩
  unfold lkOk at h
  rw [hx, hy] at h
  have hor : most < 1 ∨ 256 < most ∨ x < 1 ∨ y < 1 := by
    rcases Int.lt_or_le most 1 with q | q
    · exact .inl q
    · rcases Int.lt_or_le 256 most with q2 | q2
      · exact .inr (.inl q2)
      · rcases Int.lt_or_le x 1 with q3 | q3
        · exact .inr (.inr (.inl q3))
        · rcases Int.lt_or_le y 1 with q4 | q4
          · exact .inr (.inr (.inr q4))
          · rw [decide_eq_true q, decide_eq_true q2, decide_eq_true q3, decide_eq_true q4] at h; cases h
  have HX := Lib.hid hx
  have HY := Lib.hid hy
  clear hx hy h
  have c1 : decide (most < 1) = true ∨ decide (most < 1) = false := by cases decide (most < 1) <;> simp
  have c2 : decide ((256 : Int) < most) = true ∨ decide ((256 : Int) < most) = false := by cases decide ((256 : Int) < most) <;> simp
  have c3 : decide (x < 1) = true ∨ decide (x < 1) = false := by cases decide (x < 1) <;> simp
  have c4 : decide (y < 1) = true ∨ decide (y < 1) = false := by cases decide (y < 1) <;> simp
  rcases c1 with c1 | c1 <;> rcases c2 with c2 | c2 <;> rcases c3 with c3 | c3 <;> rcases c4 with c4 | c4
  all_goals first
    | (exfalso; have := of_decide_eq_false c1; have := of_decide_eq_false c2; have := of_decide_eq_false c3; have := of_decide_eq_false c4; omega)
    | (go_enter Try.func7, Try.ntmps7
       go_wp2_with fail
       refine (rlim_k win x _ HX.out).mono ?_
       rintro e w' ⟨rfl, rfl⟩
       go_wp2_with fail
       refine (rlim_k lock y _ HY.out).mono ?_
       rintro e w' ⟨rfl, rfl⟩
       go_wp2_with fail
       go_ret2
       exact ⟨rfl, rfl⟩)
end Go.Proofs.Ytclecajbcmmddaa
