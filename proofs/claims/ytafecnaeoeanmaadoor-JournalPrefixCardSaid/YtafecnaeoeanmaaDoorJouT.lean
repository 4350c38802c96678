/-
  Appends onto own rows of strings as one step of a region that draws its order. No condition beyond sizes.
-/
import Derived.Test.YtafecnaeoeanmaaDoorJouQ
import Derived.Deep.RegionLaw
set_option maxRecDepth 100000
set_option linter.unusedVariables false
set_option linter.unusedSimpArgs false
set_option linter.unnecessarySimpa false
namespace Go.Proofs.YtafecnaeoeanmaaDoor
open Go.RowKit Go.PlainAid

/-- append onto an own slice, as one step of a region that draws -/
theorem step_append_own_at {ops : Array Oper} {o : Oper} {a : Act} {w : World} {K : Act → World → Prop} {Q : Exit → Act → World → Prop} {E : Prop} (hgd : o.guard = none) (s x : Operand) (t : TypeId)
    (ho : o.op = .call { callee := .builtin .append, args := #[s, x], argTypes := #[t, t] })
    (base : Nat) (e : TypeId) (i : TypeInfo) (z : Value) (size bytes : Nat) (ht : Tryd.prog.underlying t = some (.slice e)) (hi : Tryd.prog.info? e = some i) (hz : i.zero = some z)
    (hsize : i.size = size) (hby : i.bytes = bytes) (hzs : z.cells.size = size) (hsz : 0 < size)
    (v : Value) (n : Nat) (xs : List Value) (hs : a.eval s = v) (hown : w.ownsRow base e size v n xs)
    (ad : Addr) (m c : Nat) (news : List Value) (hx : a.eval x = .slice (some ad) m c) (hl : news.length = m * size) (hnews : ∀ j u, news[j]? = some u → w.cell? (ad.add j) = some u) (h1 : ∀ u ∈ news, u.oneCell' = true)
    (h63 : n + m ≤ maxLen) (hbytes : (n + m) * bytes ≤ 140737488355328) (hbase : base ≤ w.heap.size)
    (h : ∀ v' w', w'.ownsRow base e size v' (n + m) (xs ++ news) → w.grownBy w' v.ownBlock → (v'.ownBlock = v.ownBlock ∨ v'.ownBlock = some w.heap.size) → K (a.put o.dst v') w') :
    if Region.wanted o (yielded ops a.tmps) = true then Oper.wp Tryd.prog o a w K Q else E := by
  have hw : Region.wanted o (yielded ops a.tmps) = true := by simp [Region.wanted, hgd]
  rw [if_pos hw]
  obtain ⟨v', w', hr, h2, h3, _, h5⟩ := run_append_own_at (P := Tryd.prog) w base t o.type e i z size bytes ht hi hz hsize hby hzs hsz v n xs hown ad m c news hl hnews h1 h63 hbytes hbase
  unfold Oper.wp execOp
  simp only [ho, resolve, invoke, builtin, Sem.run_bind, Sem.run_pure, Result.andThen_ok, List.map_toArray, List.map_cons, List.map_nil, hs, hx, hr]
  exact h v' w' h2 h3 h5
theorem row_slice {w : World} {base : Nat} {e : TypeId} {size : Nat} {v : Value} {n : Nat} {xs : List Value} (h : w.ownsRow base e size v n xs) : ∃ ao cap, v = .slice ao n cap := by
  rcases h.2 with ⟨rfl, rfl⟩ | ⟨g, cap, cur, rfl, _⟩
  · exact ⟨_, _, rfl⟩
  · exact ⟨_, _, rfl⟩
/-- 'l = append(l, m...)' where l and m are own rows, as one step -/
theorem step_app_j {ops : Array Oper} {o : Oper} {a : Act} {K : Act → World → Prop} {Q : Exit → Act → World → Prop} {E : Prop} (wr : World) {base base2 : Nat} {v u : Value} {n m : Nat} {xs : List Value} {news : List ByteArray} (hown : wr.ownsRow base 9 1 v n xs) (s x : Operand)
    (hu : wr.ownsRow base2 9 1 u m (scells news)) (hgd : o.guard = none)
    (ho : o.op = .call { callee := .builtin .append, args := #[s, x], argTypes := #[23, 23] })
    (hs : a.eval s = v) (hx : a.eval x = u) (hn : n + m ≤ 1000000000) (hbase : base ≤ wr.heap.size)
    (h : ∀ v' w', w'.ownsRow base 9 1 v' (n + m) (xs ++ scells news) → Hid (wr.grownBy w' v.ownBlock) → Hid (v'.ownBlock = v.ownBlock ∨ ∃ g, v'.ownBlock = some g ∧ wr.heap.size ≤ g) → K (a.put o.dst v') w') :
    if Region.wanted o (yielded ops a.tmps) = true then Oper.wp Tryd.prog o a wr K Q else E := by
  obtain ⟨i0, hi, hz0, hz1, hz2⟩ := info_parts info_string
  have hlen : (scells news).length = m := by have := hu.1; rw [this]; omega
  have hone : ∀ y ∈ scells news, y.oneCell' = true := by
    intro y hy
    obtain ⟨z, _, rfl⟩ := List.mem_map.1 hy
    rfl
  have hu0 := hu
  rcases hu.2 with ⟨rfl, rfl⟩ | ⟨g, cap, cur, rfl, _, _, _, _, _, _⟩
  · have e : scells news = [] := List.eq_nil_of_length_eq_zero hlen
    have hw : Region.wanted o (yielded ops a.tmps) = true := by simp [Region.wanted, hgd]
    rw [if_pos hw]
    have hrun := run_append_owned_none (P := Tryd.prog) (w := wr) base 23 o.type 9 i0 1 Tryd.underlying23 hi v n xs hown
    have := h v wr (by rw [e, List.append_nil]; exact hown) (Lib.hid ⟨rfl, rfl, rfl, Nat.le_refl _, fun _ _ _ => rfl⟩) (Lib.hid (.inl rfl))
    unfold Oper.wp execOp
    simp only [ho, resolve, invoke, builtin, Sem.run_bind, Sem.run_pure, Result.andThen_ok, List.map_toArray, List.map_cons, List.map_nil, hs, hx, hrun]
    exact this
  · refine step_append_own_at hgd s x 23 ho base 9 i0 (.string ⟨#[]⟩) 1 16 Tryd.underlying23 hi hz0 hz1 hz2 rfl (by decide) v n xs hs hown ⟨g, 0, none⟩ m cap (scells news) hx (by rw [hlen]; omega)
      (hu0.cells rfl) hone (by unfold maxLen; omega) (by omega) hbase ?_
    intro v' w' h1 h2 h4
    refine h v' w' h1 (Lib.hid h2) (Lib.hid ?_)
    rcases h4 with h4 | h4
    · exact .inl h4
    · exact .inr ⟨_, h4, Nat.le_refl _⟩
/-- what is kept of a crash -/
def kpN (k : Int) (n : Nat) : Nat := (min (max k 0) (n : Int)).toNat
theorem kp_int (k : Int) (n : Nat) : min (max k 0) (n : Int) = (kpN k n : Int) := by unfold kpN; omega
theorem kp_le (k : Int) (n : Nat) : kpN k n ≤ n := by unfold kpN; omega
/-- the records behind a crash -/
def crashL (l : List ByteArray) (d : Nat) (k : Int) : List ByteArray := l.take d ++ decS ((encsS (l.drop d)).extract 0 (kpN k (encsS (l.drop d)).size))
theorem crash_dec {l : List ByteArray} (d : Nat) (k : Int) (h : ∀ r ∈ l, r.size ≤ 4096) : ∃ m, m ≤ (l.drop d).length ∧ decS ((encsS (l.drop d)).extract 0 (kpN k (encsS (l.drop d)).size)) = (l.drop d).take m := by
  obtain ⟨m, h1, h2, _⟩ := decS_take (l := l.drop d) (kpN k (encsS (l.drop d)).size) (fun r hr => h r (List.mem_of_mem_drop hr))
  exact ⟨m, h1, h2⟩
theorem crash_pre {l : List ByteArray} {d : Nat} (k : Int) (hd : d ≤ l.length) (h : ∀ r ∈ l, r.size ≤ 4096) : ∃ m, d ≤ m ∧ m ≤ l.length ∧ crashL l d k = l.take m := by
  obtain ⟨m, h1, h2⟩ := crash_dec (l := l) d k h
  rw [List.length_drop] at h1
  refine ⟨d + m, by omega, by omega, ?_⟩
  unfold crashL
  rw [h2, List.take_add]

end Go.Proofs.YtafecnaeoeanmaaDoor
