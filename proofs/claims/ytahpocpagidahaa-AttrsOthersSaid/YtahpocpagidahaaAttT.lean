/-
  Attributes in memory with the heads of their values' slices written out: cells, appends, what reads as a list of attributes. Condition: at most 1000000 attributes.
-/
import Derived.Test.YtahpocpagidahaaAttApp
import Derived.Laws.AppendOwnNone
import Derived.ArgAppend
import Derived.Deep.AppendSrc
set_option linter.unusedVariables false
set_option linter.unusedSimpArgs false
set_option linter.unnecessarySimpa false
namespace Go.Proofs.Ytahpocpagidahaa
open Go.RowKit Go.PlainAid

/-- an attribute: its name, the head of its values' slice, its values -/
abbrev Tr := ByteArray × Value × List ByteArray
def tcells (T : List Tr) : List Value := T.flatMap fun t => [.string t.1, t.2.1]
def tats (T : List Tr) : List At := T.map fun t => (t.1, t.2.2)
theorem tcells_cons (t : Tr) (T : List Tr) : tcells (t :: T) = .string t.1 :: t.2.1 :: tcells T := rfl
theorem tcells_append (T U : List Tr) : tcells (T ++ U) = tcells T ++ tcells U := by simp [tcells]
theorem tats_append (T U : List Tr) : tats (T ++ U) = tats T ++ tats U := by simp [tats]
theorem tats_len (T : List Tr) : (tats T).length = T.length := by simp [tats]
theorem tcells_len : ∀ T : List Tr, (tcells T).length = T.length * 2
  | [] => rfl
  | t :: T => by
    have h := tcells_len T
    rw [tcells_cons, List.length_cons, List.length_cons, h, List.length_cons]; omega
def trD (T : List Tr) (j : Nat) : Tr := T.getD j (⟨#[]⟩, .slice none 0 0, [])
theorem tr_get (T : List Tr) (j : Nat) (h : j < T.length) : trD T j = T[j] := by
  unfold trD; rw [List.getD_eq_getElem?_getD, List.getElem?_eq_getElem h]; rfl
theorem tr_mem (T : List Tr) (j : Nat) (h : j < T.length) : trD T j ∈ T := by rw [tr_get T j h]; exact List.getElem_mem h
theorem tr_take (T : List Tr) (k : Nat) (h : k < T.length) : T.take (k + 1) = T.take k ++ [trD T k] := by
  rw [tr_get T k h]; exact List.take_succ_eq_append_getElem h
theorem tats_take (T : List Tr) (k : Nat) : tats (T.take k) = (tats T).take k := by unfold tats; rw [List.map_take]
theorem atD_tats (T : List Tr) (j : Nat) : atD (tats T) j = ((trD T j).1, (trD T j).2.2) := by
  unfold atD trD tats
  rw [List.getD_eq_getElem?_getD, List.getD_eq_getElem?_getD, List.getElem?_map]
  cases T[j]? <;> rfl
theorem tcells_at : ∀ (T : List Tr) (j : Nat), j < T.length → (tcells T)[j * 2]? = some (.string (trD T j).1) ∧ (tcells T)[j * 2 + 1]? = some (trD T j).2.1
  | [], j, h => absurd h (Nat.not_lt_zero _)
  | t :: T, 0, h => ⟨rfl, rfl⟩
  | t :: T, j + 1, h => by
    have := tcells_at T j (by simpa using h)
    rw [tcells_cons, show (j + 1) * 2 = j * 2 + 1 + 1 by omega, show j * 2 + 1 + 1 + 1 = (j * 2 + 1) + 1 + 1 by omega, List.getElem?_cons_succ, List.getElem?_cons_succ, List.getElem?_cons_succ, List.getElem?_cons_succ]
    exact this
theorem tcells_take : ∀ (T : List Tr) (i : Nat), (tcells T).take (i * 2) = tcells (T.take i)
  | [], i => by simp [tcells]
  | x :: T, 0 => rfl
  | x :: T, i + 1 => by
    have ih := tcells_take T i
    rw [show (i + 1) * 2 = i * 2 + 1 + 1 by omega, List.take_succ_cons, tcells_cons, tcells_cons, List.take_succ_cons, List.take_succ_cons, ih]
theorem tcells_drop (T : List Tr) (i : Nat) (h : i ≤ T.length) : (tcells T).drop (i * 2) = tcells (T.drop i) := by
  have e : tcells T = tcells (T.take i) ++ tcells (T.drop i) := by rw [← tcells_append, List.take_append_drop]
  rw [e, List.drop_append_of_le_length (by rw [tcells_len, List.length_take]; omega), List.drop_of_length_le (by rw [tcells_len, List.length_take]; omega), List.nil_append]
/-- a slice's head that reads as strings -/
def Hdr (w : World) (v : Value) (vs : List ByteArray) : Prop := ∃ ao n cap, v = .slice ao n cap ∧ StrsAt w ao n cap vs
theorem Hdr.below {w w' : World} {v : Value} {vs : List ByteArray} (h : Hdr w v vs) (hb : Below w.heap.size w w') : Hdr w' v vs := by
  obtain ⟨ao, n, cap, e, hs⟩ := h
  exact ⟨ao, n, cap, e, hs.below hb⟩
theorem Hdr.one {w : World} {v : Value} {vs : List ByteArray} (h : Hdr w v vs) : v.oneCell' = true := by
  obtain ⟨ao, n, cap, rfl, _⟩ := h; rfl
theorem hdr_nil (w : World) : Hdr w (.slice none 0 0) [] := ⟨none, 0, 0, rfl, rfl, Nat.le_refl _, by unfold maxLen; omega, fun h => absurd h (Nat.lt_irrefl _)⟩
theorem hdr_owns {w : World} {base : Nat} {v : Value} {vs : List ByteArray} (h : w.ownsRow base 9 1 v vs.length (scells vs)) : Hdr w v vs := by
  obtain ⟨ao, cap, e, hs⟩ := strs_own h rfl
  exact ⟨ao, _, cap, e, hs⟩
def TOk (w : World) (T : List Tr) : Prop := ∀ t ∈ T, Hdr w t.2.1 t.2.2
theorem TOk.below {w w' : World} {T : List Tr} (h : TOk w T) (hb : Below w.heap.size w w') : TOk w' T := fun t ht => (h t ht).below hb
theorem TOk.app {w : World} {T U : List Tr} (h : TOk w T) (k : TOk w U) : TOk w (T ++ U) := fun t ht => (List.mem_append.1 ht).elim (h t) (k t)
theorem TOk.sub {w : World} {T U : List Tr} (h : TOk w T) (k : ∀ t ∈ U, t ∈ T) : TOk w U := fun t ht => h t (k t ht)
theorem tcells_one {w : World} {T : List Tr} (h : TOk w T) : ∀ u ∈ tcells T, u.oneCell' = true := by
  intro u hu
  obtain ⟨p, hp, hu⟩ := List.mem_flatMap.1 hu
  simp at hu
  rcases hu with rfl | rfl
  · rfl
  · exact (h p hp).one
/-- a slice of attributes, their heads written out -/
def TsAt (w : World) (ao : Option Addr) (n cap : Nat) (T : List Tr) : Prop :=
  T.length = n ∧ n ≤ cap ∧ cap ≤ maxLen ∧ (0 < n → ∃ b off, ao = some ⟨b, off, none⟩ ∧ b < w.heap.size ∧ ∀ j u, (tcells T)[j]? = some u → w.cell? ⟨b, off + j, none⟩ = some u)
theorem TsAt.below {w w' : World} {ao : Option Addr} {n cap : Nat} {T : List Tr} (h : TsAt w ao n cap T) (hb : Below w.heap.size w w') : TsAt w' ao n cap T :=
  ⟨h.1, h.2.1, h.2.2.1, fun hn => by
    obtain ⟨b, off, e, hi, ha⟩ := h.2.2.2 hn
    exact ⟨b, off, e, Nat.lt_of_lt_of_le hi hb.size, fun j u hj => cell_later hb (ha j u hj)⟩⟩
theorem TsAt.keep {w w' : World} {ao : Option Addr} {n cap : Nat} {T : List Tr} (h : TsAt w ao n cap T) (hs : w.heap.size ≤ w'.heap.size) (hk : ∀ b off, ao = some ⟨b, off, none⟩ → b < w.heap.size → w'.heap[b]? = w.heap[b]?) : TsAt w' ao n cap T :=
  ⟨h.1, h.2.1, h.2.2.1, fun hn => by
    obtain ⟨b, off, e, hi, ha⟩ := h.2.2.2 hn
    refine ⟨b, off, e, Nat.lt_of_lt_of_le hi hs, fun j u hj => ?_⟩
    rw [← ha j u hj]
    exact World.cell?_of_block (a := ⟨b, off + j, none⟩) (hk b off e hi)⟩
theorem ts_nil (w : World) (ao : Option Addr) (cap : Nat) (h : cap ≤ maxLen) : TsAt w ao 0 cap [] := ⟨rfl, Nat.zero_le _, h, fun h => absurd h (Nat.lt_irrefl _)⟩
theorem ts_at {w : World} {b off n cap : Nat} {T : List Tr} (h : TsAt w (some ⟨b, off, none⟩) n cap T) (j : Nat) (hj : j < n) :
    w.cell? ⟨b, off + j * 2, none⟩ = some (.string (trD T j).1) ∧ w.cell? ⟨b, off + j * 2 + 1, none⟩ = some (trD T j).2.1 := by
  obtain ⟨b', off', e, _, ha⟩ := h.2.2.2 (by omega)
  cases e
  have := tcells_at T j (by rw [h.1]; exact hj)
  exact ⟨ha _ _ this.1, by rw [Nat.add_assoc]; exact ha _ _ this.2⟩
theorem ts_ats {w : World} {ao : Option Addr} {n cap : Nat} {T : List Tr} (h : TsAt w ao n cap T) (hT : TOk w T) : AttrsAt w ao n cap (tats T) := by
  refine ⟨by rw [tats_len]; exact h.1, h.2.1, h.2.2.1, fun hn => ?_⟩
  obtain ⟨b, off, e, hi, ha⟩ := h.2.2.2 hn
  subst e
  refine ⟨b, off, rfl, hi, fun j hj => ?_⟩
  rw [atD_tats]
  obtain ⟨c0, c1⟩ := ts_at h j hj
  obtain ⟨vo, vn, vc, e, hs⟩ := hT _ (tr_mem T j (by rw [h.1]; exact hj))
  exact ⟨c0, vo, vn, vc, by rw [← e]; exact c1, hs⟩
theorem ats_ts {w : World} {ao : Option Addr} {n cap : Nat} {l : List At} (h : AttrsAt w ao n cap l) : ∃ T, tats T = l ∧ TOk w T ∧ TsAt w ao n cap T := by
  obtain ⟨h1, h2, h3, h4⟩ := h
  by_cases hn : 0 < n
  · obtain ⟨b, off, e, hi, ha⟩ := h4 hn
    have key : ∀ k, k ≤ n → ∃ T : List Tr, tats T = l.take k ∧ TOk w T ∧ ∀ j u, (tcells T)[j]? = some u → w.cell? ⟨b, off + j, none⟩ = some u := by
      intro k
      induction k with
      | zero => exact fun _ => ⟨[], by simp [tats], fun t ht => (List.not_mem_nil ht).elim, fun j u hj => by simp [tcells] at hj⟩
      | succ k ih =>
        intro hk
        obtain ⟨T, e1, hT, hc⟩ := ih (by omega)
        obtain ⟨c0, vo, vn, vc, c1, hs⟩ := ha k (by omega)
        have hTl : T.length = k := by rw [← tats_len, e1, List.length_take]; omega
        refine ⟨T ++ [((atD l k).1, .slice vo vn vc, (atD l k).2)], ?_, hT.app fun t ht => ?_, fun j u hj => ?_⟩
        · rw [tats_append, e1, at_take l k (by omega)]; rfl
        · rw [List.mem_singleton.1 ht]; exact ⟨vo, vn, vc, rfl, hs⟩
        · rw [tcells_append] at hj
          by_cases hlt : j < (tcells T).length
          · rw [List.getElem?_append_left hlt] at hj; exact hc j u hj
          · rw [List.getElem?_append_right (by omega), tcells_len, hTl] at hj
            rw [tcells_len, hTl] at hlt
            obtain ⟨d, rfl⟩ : ∃ d, j = k * 2 + d := ⟨j - k * 2, by omega⟩
            rw [Nat.add_sub_cancel_left] at hj
            match d, hj with
            | 0, hj =>
              obtain rfl := (Option.some.inj hj)
              exact c0
            | 1, hj =>
              obtain rfl := (Option.some.inj hj)
              rw [show off + (k * 2 + 1) = off + k * 2 + 1 by omega]; exact c1
            | d + 2, hj => simp [tcells] at hj
    obtain ⟨T, e1, hT, hc⟩ := key n (Nat.le_refl _)
    rw [List.take_of_length_le (by omega)] at e1
    exact ⟨T, e1, hT, by rw [← tats_len, e1]; exact h1, h2, h3, fun _ => ⟨b, off, e, hi, hc⟩⟩
  · have hn0 : n = 0 := by omega
    subst hn0
    have : l = [] := List.length_eq_zero_iff.1 h1
    subst this
    exact ⟨[], rfl, fun t ht => (List.not_mem_nil ht).elim, ts_nil w ao cap h3⟩
theorem info_attr : (Try.prog.info? 42).map (fun i => (i.zero, i.size, i.bytes)) = some (some (.agg #[.string ⟨#[]⟩, .slice none 0 0]), 2, 40) := by kernel_rfl
theorem ts_news {w : World} {ad : Addr} {m c : Nat} {T : List Tr} (h : TsAt w (some ad) m c T) : ∀ j u, (tcells T)[j]? = some u → w.cell? (ad.add j) = some u := by
  intro j u hj
  rcases Nat.eq_zero_or_pos m with e | e
  · have hnil : T = [] := List.length_eq_zero_iff.1 (by rw [h.1]; exact e)
    subst hnil; simp [tcells] at hj
  · obtain ⟨b, off, e2, _, ha⟩ := h.2.2.2 e
    cases e2
    rw [Go.WideShapes.add_plain]; exact ha j u hj
/-- 'l = append(l, ats...)' where l is the call's own -/
theorem app_attrs {ops : Array Oper} {rest : List Oper} {o : Oper} {a : Act} {Q : Exit → Act → World → Prop} (wr : World) {base : Nat} {v : Value} {n : Nat} {xs : List Value} (hown : wr.ownsRow base 42 2 v n xs) (s x : Operand)
    (ao : Option Addr) (m c : Nat) (news : List Tr) (hgd : o.guard = none)
    (ho : o.op = .call { callee := .builtin .append, args := #[s, x], argTypes := #[22, 22] })
    (hs : a.eval s = v) (hx : a.eval x = .slice ao m c) (hw : TsAt wr ao m c news) (hT : TOk wr news) (hn : n + m ≤ 1000000000) (hbase : base ≤ wr.heap.size)
    (h : ∀ v' w', w'.ownsRow base 42 2 v' (n + m) (xs ++ tcells news) → wr.grownBy w' v.ownBlock → (v'.ownBlock = v.ownBlock ∨ v'.ownBlock = some wr.heap.size) → wpList Try.prog ops Q rest (a.put o.dst v') w') :
    wpList Try.prog ops Q (o :: rest) a wr := by
  obtain ⟨i0, hi, hz0, hz1, hz2⟩ := info_parts info_attr
  cases ao with
  | some ad =>
    refine wpList_append_own_at _ hgd s x 22 ho base 42 i0 (.agg #[.string ⟨#[]⟩, .slice none 0 0]) 2 40 Try.underlying22 hi hz0 hz1 hz2 rfl (by decide) v n xs hs hown ad m c (tcells news) hx (by rw [tcells_len, hw.1]) (ts_news hw)
      (tcells_one hT) (by unfold maxLen; omega) (by omega) hbase ?_
    intro v' w' k1 k2 _ k4
    exact h v' w' k1 k2 k4
  | none =>
    have hm : m = 0 := by
      rcases Nat.eq_zero_or_pos m with e | e
      · exact e
      · obtain ⟨_, _, e2, _⟩ := hw.2.2.2 e; cases e2
    subst hm
    have hnil : news = [] := List.length_eq_zero_iff.1 hw.1
    subst hnil
    have hrun : (Builtin.append_ #[22, 22] o.type #[v, .slice none 0 c]).run Try.prog wr = .ok v wr := by
      rcases hown.2 with ⟨rfl, _⟩ | ⟨g, cap, cur, rfl, _, _, hc, _⟩
      · exact run_append_nothing wr 22 22 o.type 42 i0 Try.underlying22 hi none 0 0 (Nat.le_refl _) _ (Src.ofNil wr Try.underlying22 c)
      · exact run_append_nothing wr 22 22 o.type 42 i0 Try.underlying22 hi _ _ _ hc _ (Src.ofNil wr Try.underlying22 c)
    refine wpList_plain hgd fun K hK => ?_
    unfold Oper.wp execOp
    simp only [ho, resolve, invoke, builtin, Sem.run_bind, Sem.run_pure, Result.andThen_ok, List.map_toArray, List.map_cons, List.map_nil, hs, hx, hrun]
    refine hK _ _ (h v wr ?_ ⟨rfl, rfl, rfl, Nat.le_refl _, fun _ _ _ => rfl⟩ (.inl rfl))
    simpa [tcells] using hown
theorem ts_owns {w : World} {base n : Nat} {v : Value} {T : List Tr} (h : w.ownsRow base 42 2 v n (tcells T)) : T.length = n ∧ ∃ ao cap, v = .slice ao n cap ∧ TsAt w ao n cap T ∧ FreshA base ao ∧ (ao = none → cap = 0) ∧ (∀ ad, ao = some ad → ad.spot = none) := by
  have h0 := h
  have hlen : T.length = n := by have := h.1; rw [tcells_len] at this; omega
  refine ⟨hlen, ?_⟩
  rcases h.2 with ⟨rfl, rfl⟩ | ⟨g, cap, cur, rfl, hb, hg, hc, hm, hcs, ht⟩
  · exact ⟨none, 0, rfl, ⟨hlen, Nat.le_refl _, by unfold maxLen; omega, fun h => absurd h (Nat.lt_irrefl _)⟩, fun _ _ e => by (cases e), fun _ => rfl, fun _ e => by cases e⟩
  · refine ⟨_, cap, rfl, ⟨hlen, hc, hm, fun h1 => ⟨g, 0, rfl, ?_, fun j u hj => ?_⟩⟩, fun b off e => by (cases e; exact hb), fun e => (by cases e), fun ad e => by cases e; rfl⟩
    · rcases Nat.lt_or_ge g w.heap.size with h' | h'
      · exact h'
      · simp [Array.getElem?_eq_none h'] at hg
    · have := h0.cells (g := g) rfl j u hj
      rw [Go.WideShapes.add_plain] at this
      exact this
/-- a slice of attributes that was just laid -/
theorem ts_new1 (w : World) (t : Tr) : TsAt (w.alloc (.cells #[.string t.1, t.2.1] 42)) (some ⟨w.heap.size, 0, none⟩) 1 1 [t] := by
  refine ⟨rfl, Nat.le_refl _, by unfold maxLen; omega, fun _ => ⟨w.heap.size, 0, rfl, by simp, fun j u hj => ?_⟩⟩
  have hb := heap_alloc_new w (.cells #[.string t.1, t.2.1] 42)
  match j, hj with
  | 0, hj => obtain rfl := Option.some.inj hj; unfold World.cell?; simp only [hb]; rfl
  | 1, hj => obtain rfl := Option.some.inj hj; unfold World.cell?; simp only [hb]; rfl
  | j + 2, hj => simp [tcells] at hj
/-- 'append(l, ats...)' where l has no room -/
theorem app_onto {ops : Array Oper} {rest : List Oper} {o : Oper} {a : Act} {Q : Exit → Act → World → Prop} (wr : World) (s x : Operand) (ao bo : Option Addr) (n m c : Nat) (olds news : List Tr) (hgd : o.guard = none)
    (ho : o.op = .call { callee := .builtin .append, args := #[s, x], argTypes := #[22, 22] })
    (hs : a.eval s = .slice ao n n) (hx : a.eval x = .slice bo m c) (hold : TsAt wr ao n n olds) (hnone : ao = none → n = 0) (hplain : ∀ ad, ao = some ad → ad.spot = none) (hw : TsAt wr bo m c news) (hO : TOk wr olds) (hT : TOk wr news) (hn : n + m ≤ 1000000)
    (h : ∀ xo cap w', TsAt w' xo (n + m) cap (olds ++ news) → Below wr.heap.size wr w' → (∀ ad, xo = some ad → ad.spot = none) → (xo = none → cap = 0) → (FreshA wr.heap.size xo ∨ (xo = ao ∧ w' = wr ∧ cap = n)) → wpList Try.prog ops Q rest (a.put o.dst (.slice xo (n + m) cap)) w') :
    wpList Try.prog ops Q (o :: rest) a wr := by
  obtain ⟨i0, hi, hz0, hz1, hz2⟩ := info_parts info_attr
  cases ao with
  | none =>
    have e0 := hnone rfl
    subst e0
    have e1 : olds = [] := List.length_eq_zero_iff.1 hold.1
    subst e1
    refine app_attrs wr (World.ownsRow_nil wr wr.heap.size 42 2) s x bo m c news hgd ho hs hx hw hT (by omega) (Nat.le_refl _) ?_
    intro v' w' h1 h2 _
    rw [List.nil_append] at h1
    have h1' : w'.ownsRow wr.heap.size 42 2 v' (0 + m) (tcells ([] ++ news)) := h1
    obtain ⟨_, xo, cap, rfl, hat, hfr, hz, hsp⟩ := ts_owns h1'
    exact h xo cap w' hat ((Below.refl _ wr).grown h2 (Nat.le_refl _) (fun k hk => by cases hk)) hsp hz (.inl hfr)
  | some ad =>
    have hsp := hplain ad rfl
    obtain ⟨b, off, spot⟩ := ad
    simp only at hsp
    subst hsp
    rcases Nat.eq_zero_or_pos m with e | e
    · subst e
      have e1 : news = [] := List.length_eq_zero_iff.1 hw.1
      subst e1
      have hsrc : Src Try.prog i0.size 22 (.slice bo 0 c) 0 [] wr := by
        cases bo with
        | none => exact Src.ofNil wr Try.underlying22 c
        | some a2 => exact Src.ofSlice wr Try.underlying22 a2 0 c [] (by simp) (fun j u hj => by simp at hj) (fun u hu => by cases hu)
      refine wpList_plain hgd fun K hK => ?_
      have hrun := run_append_room_src (P := Try.prog) (w := wr) 22 22 o.type 42 i0 Try.underlying22 hi b off n n (.slice bo 0 c) 0 [] hsrc (by omega) (fun j hj => by simp at hj) (fun j hj => by simp at hj)
      unfold Oper.wp
      simp [execOp, ho, resolve, invoke, builtin, hs, hx, hrun, Result.andThen]
      refine hK _ _ (h (some ⟨b, off, none⟩) n wr (by rw [List.append_nil]; exact hold) (Below.refl _ _) (fun ad e => by cases e; rfl) (fun e => by cases e) (.inr ⟨rfl, rfl, rfl⟩))
    · obtain ⟨b2, off2, e2, _⟩ := hw.2.2.2 e
      subst e2
      refine wpList_append_grows wr hgd s x 22 ho 42 i0 (.agg #[.string ⟨#[]⟩, .slice none 0 0]) 2 40 Try.underlying22 hi hz0 hz1 hz2 rfl (by decide) (some ⟨b, off, none⟩) n n (tcells olds) hs (fun e => by cases e) (by rw [tcells_len, hold.1])
        (fun ad had j u hj => by cases had; exact ts_news hold j u hj) ⟨b2, off2, none⟩ m c (tcells news) hx (by rw [tcells_len, hw.1]) (ts_news hw) (tcells_one hT) (by omega) (by unfold maxLen; omega) (by omega) ?_
      intro v' w' h1 h2
      have h1' : w'.ownsRow wr.heap.size 42 2 v' (n + m) (tcells (olds ++ news)) := by rw [tcells_append]; exact h1
      obtain ⟨_, xo, cap, rfl, hat, hfr, hz, hsp2⟩ := ts_owns h1'
      exact h xo cap w' hat ((Below.refl _ wr).grown h2 (Nat.le_refl _) (fun k hk => by cases hk)) hsp2 hz (.inl hfr)

end Go.Proofs.Ytahpocpagidahaa
