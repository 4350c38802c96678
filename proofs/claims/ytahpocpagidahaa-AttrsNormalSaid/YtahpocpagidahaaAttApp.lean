/-
  append(s, l...) at strings: s a slice of the call's own, l any slice of strings. Condition: at most 1000000000 strings together.
-/
import Derived.Test.YtahpocpagidahaaAttGrp
import Derived.Maps.AppendAt
import Derived.Deep.Upon
set_option linter.unusedVariables false
set_option linter.unusedSimpArgs false
set_option linter.unnecessarySimpa false
namespace Go.Proofs.Ytahpocpagidahaa
open Go.RowKit Go.PlainAid

theorem push_strs {ops : Array Oper} {rest : List Oper} {o : Oper} {a : Act} {Q : Exit → Act → World → Prop} (wr : World) {base : Nat} {v : Value} {n : Nat} {xs : List Value} (hown : wr.ownsRow base 9 1 v n xs) (s x : Operand)
    {vo : Option Addr} {vn vc : Nat} {vs : List ByteArray} (hv : StrsAt wr vo vn vc vs) (hgd : o.guard = none)
    (ho : o.op = .call { callee := .builtin .append, args := #[s, x], argTypes := #[29, 29] })
    (hs : a.eval s = v) (hx : a.eval x = .slice vo vn vc) (hn : n + vn ≤ 1000000000) (hbase : base ≤ wr.heap.size)
    (h : ∀ v' w', w'.ownsRow base 9 1 v' (n + vn) (xs ++ scells vs) → wr.grownBy w' v.ownBlock → (v'.ownBlock = v.ownBlock ∨ v'.ownBlock = some wr.heap.size) → wpList Try.prog ops Q rest (a.put o.dst v') w') :
    wpList Try.prog ops Q (o :: rest) a wr := by
  obtain ⟨i0, hi, hz0, hz1, hz2⟩ := info_parts info_string
  obtain ⟨h1, h2, h3, h4⟩ := hv
  have key : ∀ ad : Addr, vo = some ad → (∀ j u, (scells vs)[j]? = some u → wr.cell? (ad.add j) = some u) → wpList Try.prog ops Q (o :: rest) a wr := fun ad e hc =>
    wpList_append_own_at _ hgd s x 29 ho base 9 i0 (.string ⟨#[]⟩) 1 16 Try.underlying29 hi hz0 hz1 hz2 rfl (by decide) v n xs hs hown ad vn vc (scells vs) (by rw [hx, e]) (by unfold scells; rw [List.length_map]; omega)
      hc (by intro u hu; unfold scells at hu; obtain ⟨y, _, rfl⟩ := List.mem_map.1 hu; rfl) (by unfold maxLen; omega) (by omega) hbase (fun v' w' k1 k2 _ k4 => h v' w' k1 k2 k4)
  by_cases hp : 0 < vn
  · obtain ⟨b, off, e, hb, hc⟩ := h4 hp
    refine key _ e fun j u hu => ?_
    unfold scells at hu
    rw [List.getElem?_map] at hu
    cases hj : vs[j]? with
    | none => rw [hj] at hu; cases hu
    | some y =>
      rw [hj] at hu
      obtain rfl := (Option.some.inj hu).symm
      have hjl : j < vs.length := (List.getElem?_eq_some_iff.1 hj).1
      have := hc j hjl
      rw [Go.WideShapes.add_plain]
      rw [this]; unfold partAt
      rw [List.getD_eq_getElem?_getD, hj]; rfl
  · have hvn : vn = 0 := by omega
    subst hvn
    have hvs : vs = [] := List.length_eq_zero_iff.1 h1
    subst hvs
    cases vo with
    | some ad => exact key ad rfl (fun j u hu => by simp [scells] at hu)
    | none =>
      have hrun : (Builtin.append_ #[29, 29] o.type #[v, .slice none 0 vc]).run Try.prog wr = .ok v wr := by
        rcases hown.2 with ⟨rfl, _⟩ | ⟨g, cap, cur, rfl, _, _, hc, _⟩
        · exact run_append_nothing wr 29 29 o.type 9 i0 Try.underlying29 hi none 0 0 (Nat.le_refl _) _ (Src.ofNil wr Try.underlying29 vc)
        · exact run_append_nothing wr 29 29 o.type 9 i0 Try.underlying29 hi _ _ _ hc _ (Src.ofNil wr Try.underlying29 vc)
      refine wpList_plain hgd fun K hK => ?_
      unfold Oper.wp execOp
      simp only [ho, resolve, invoke, builtin, Sem.run_bind, Sem.run_pure, Result.andThen_ok, List.map_toArray, List.map_cons, List.map_nil, hs, hx, hrun]
      refine hK _ _ (h v wr ?_ ⟨rfl, rfl, rfl, Nat.le_refl _, fun _ _ _ => rfl⟩ (.inl rfl))
      simpa [scells] using hown

end Go.Proofs.Ytahpocpagidahaa
