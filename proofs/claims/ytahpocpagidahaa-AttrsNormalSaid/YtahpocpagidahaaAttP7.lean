/-
  A map from strings to bools that the call has made, with deletions; slices.DeleteFunc at strings with the closure of attrs.Remove. Condition: strings of at most 1000000 bytes.
-/
import Derived.Test.YtahpocpagidahaaAttP6
import Derived.Test.YtahpocpagidahaaAttR7
import Derived.Shelf.SlicesE.DeleteFunc
set_option linter.unusedVariables false
set_option linter.unusedSimpArgs false
set_option linter.unnecessarySimpa false
namespace Go.Proofs.Ytahpocpagidahaa
open Go.RowKit Go.PlainAid Go.Maps Go.ChangeMaps Go.Sort

/-- a map that reads as f -/
structure BMap (w : World) (b n : Nat) (D : DataW Unit) (f : ByteArray → Bool) : Prop where
  map : w.ownsMap Try.prog 9 (plainElem Try.prog 4) b n D
  reads : ∀ k : ByteArray, D.atKey (klit k) (.lit (.bool false)) = .lit (.bool (f k))
theorem BMap.of {w : World} {b n : Nat} {D : DataW Unit} {ks : List ByteArray} (h : SetM w b n D ks) : BMap w b n D (memB ks) := ⟨h.map, h.reads⟩
theorem BMap.look {w : World} {b n : Nat} {D : DataW Unit} {f : ByteArray → Bool} (G : BMap w b n D f) (k : ByteArray) (hk : k.size ≤ maxLen) :
    (Instr.lookup 43 (.map (some b)) (.string k) false).run Try.prog w = .ok (.bool (f k)) w := by
  obtain ⟨v, ps, hrun, hv⟩ := G.map.lookup (t := 43) (e := 4) (string_keyed Try.underlying9) Try.underlying43 (z := .bool false) (Try.zeroValue4 _) (plainElem_bool Try.underlying4 false) (klit_key k hk)
  rw [G.reads k] at hv
  have hv' : v = .bool (f k) := plain_bool Try.underlying4 hv
  rw [hrun, hv']
theorem BMap.kept {w w' : World} {b n : Nat} {D : DataW Unit} {f : ByteArray → Bool} {row : Option Nat} (G : BMap w b n D f) (hg : w.grownBy w' row) (hne : some b ≠ row) : BMap w' b n D f := ⟨G.map.kept hg hne, G.reads⟩
theorem BMap.below {w w' : World} {b n : Nat} {D : DataW Unit} {f : ByteArray → Bool} (G : BMap w b n D f) (hb : Below w.heap.size w w') : BMap w' b n D f :=
  G.kept (row := none) ⟨hb.os, hb.tape, hb.output, hb.size, fun k hk _ => hb.block k hk⟩ (by simp)
theorem BMap.drop {w : World} {b n : Nat} {D : DataW Unit} {f : ByteArray → Bool} (G : BMap w b n D f) (k : ByteArray) (hk : k.size ≤ maxLen) (ty : TypeId) :
    ∃ w', (Builtin.delete_ #[43, 9] ty #[.map (some b), .string k]).run Try.prog w = .ok (.tuple #[]) w' ∧ BMap w' b n (D.del (klit k)) (fun j => f j && !decide (k = j)) ∧ w.grownBy w' (some b) := by
  obtain ⟨w', hrun, hm, ht⟩ := G.map.drop (t := 43) (e := 4) (string_keyed Try.underlying9) Try.underlying43 (klit_key k hk) ty
  refine ⟨w', hrun, ⟨hm, fun j => ?_⟩, ht.grown⟩
  by_cases e : k = j
  · subst e
    rw [atKey_del_same]; simp
  · rw [atKey_del_other (fun h => e (klit_one h).symm), G.reads j]
    simp [e]
theorem BMap.cleared {w : World} {b n : Nat} {D : DataW Unit} {f : ByteArray → Bool} (G : BMap w b n D f) (ty : TypeId) :
    ∃ w', (Builtin.clear_ #[43] ty #[.map (some b)]).run Try.prog w = .ok (.tuple #[]) w' ∧ BMap w' b n (.map []) (fun _ => false) ∧ w.grownBy w' (some b) := by
  obtain ⟨es, clock, hb, F, hs, hD⟩ := G.map
  have hsame := heap_setBlock_same hb (.map #[] clock)
  refine ⟨setBlock w b (.map #[] clock), ?_, ⟨⟨#[], clock, hsame, ⟨by simp, MapKept.stamped_empty _, by simp⟩, by simp, rfl⟩, fun j => rfl⟩, World.mapTurned.grown ⟨es, clock, #[], clock, hb, rfl⟩⟩
  simp [Builtin.clear_, run_underlying Try.underlying43, MapKept.run_getObj_map hb, MapKept.run_setObj_map _ hb, Result.andThen]
  rfl

abbrev Sm := { s : ByteArray // s.size ≤ maxLen }
instance : Inhabited Sm := ⟨⟨⟨#[]⟩, by show 0 ≤ maxLen; unfold maxLen; omega⟩⟩
def encSm (x : Sm) : Value := .string x.1
theorem one_sm : OneCell encSm := fun _ => rfl
theorem lift_sm {l : List ByteArray} (h : ∀ v ∈ l, v.size ≤ maxLen) : ∃ d : List Sm, d.map (·.1) = l := by
  induction l with
  | nil => exact ⟨[], rfl⟩
  | cons v l ih =>
    obtain ⟨d, rfl⟩ := ih fun x hx => h x (List.mem_cons_of_mem _ hx)
    exact ⟨⟨v, h v (List.mem_cons_self ..)⟩ :: d, rfl⟩
theorem enc_sm (d : List Sm) : d.map encSm = scells (d.map (·.1)) := by unfold scells; rw [List.map_map]; rfl
theorem heap_put {w : World} {g q : Nat} {cur : Array Value} {e : TypeId} {fr : Nat × Nat} (d : Array Sm) (hb : w.heap[g]? = some (.cells cur e fr)) :
    (putRow encSm (Sort.ahead w q) g 0 d).heap[g]? = some (.cells (putCells encSm 0 d cur) e fr) := by
  simp [putRow, mapBlock, Sort.ahead, Array.getElem?_modify, hb, onCells]
theorem grown_put {w : World} {g q : Nat} (d : Array Sm) : w.grownBy (putRow encSm (Sort.ahead w q) g 0 d) (some g) := by
  refine ⟨rfl, rfl, rfl, by simp [putRow, mapBlock, Sort.ahead], fun k hk hne => ?_⟩
  have : g ≠ k := fun e => hne (by rw [e])
  simp [putRow, mapBlock, Sort.ahead, Array.getElem?_modify, this]
theorem take_put (cur : Array Value) (ts : List Sm) (h : ts.length ≤ cur.size) : (putCells encSm 0 ts.toArray cur).toList.take ts.length = ts.map encSm := by
  apply List.ext_getElem?
  intro j
  by_cases hj : j < ts.length
  · rw [List.getElem?_take_of_lt hj, Array.getElem?_toList]
    simp [putCells, hj, show j < cur.size by omega]
  · rw [List.getElem?_take_eq_none (by omega), List.getElem?_eq_none (by simp; omega)]
theorem own_cut1 {w : World} {base g cap n : Nat} {xs : List Value} (h : w.ownsRow base 9 1 (.slice (some ⟨g, 0, none⟩) n cap) n xs) (i : Nat) (hi : i ≤ n) :
    w.ownsRow base 9 1 (.slice (some ⟨g, 0, none⟩) i cap) i (xs.take i) := by
  obtain ⟨hl, ⟨he, _⟩ | ⟨g', cap', cur, he, h2, h3, h4, h5, h6, h7⟩⟩ := h
  · cases he
  · cases he
    refine ⟨by rw [List.length_take, hl]; omega, .inr ⟨g, cap, cur, rfl, h2, h3, by omega, h5, h6, ?_⟩⟩
    rw [← h7, List.take_take, Nat.min_eq_left (by omega), Nat.mul_one]
set_option maxRecDepth 100000 in
theorem rem1_s (v : ByteArray) (hv : v.size ≤ maxLen) (bx mb n : Nat) (D : DataW Unit) (f : ByteArray → Bool) (W : World) (hbox : W.cell? ⟨bx, 0, none⟩ = some (.map (some mb))) (G : BMap W mb n D f) :
    Calls Try.prog 58 #[.string v, .pointer (some ⟨bx, 0, none⟩)] W fun e w' => e = .returned (.bool (!f v)) ∧ w' = W := by
  have hlook := G.look v hv
  clear G
  go_enter Try.func58, Try.ntmps58
  go_wp2_with fail
  go_ret
  exact ⟨rfl, rfl⟩
def zrSm : Sm := ⟨⟨#[]⟩, by show 0 ≤ maxLen; unfold maxLen; omega⟩
/-- DeleteFunc with that closure -/
theorem delv_s (base g cap n bx mb nn : Nat) (D : DataW Unit) (f : ByteArray → Bool) (l : List ByteArray) (w : World) (hown : w.ownsRow base 9 1 (.slice (some ⟨g, 0, none⟩) n cap) n (scells l)) (hl : l.length = n) (hs : ∀ v ∈ l, v.size ≤ maxLen)
    (hbox : w.cell? ⟨bx, 0, none⟩ = some (.map (some mb))) (G : BMap w mb nn D f) (h1 : bx ≠ g) (h2 : mb ≠ g) (hn : n ≤ 1000000) :
    Calls Try.prog 57 #[.slice (some ⟨g, 0, none⟩) n cap, .func (.func 58) #[] #[.pointer (some ⟨bx, 0, none⟩)]] w fun e w' =>
      e = .returned (.slice (some ⟨g, 0, none⟩) (l.filter f).length cap) ∧ w'.ownsRow base 9 1 (.slice (some ⟨g, 0, none⟩) (l.filter f).length cap) (l.filter f).length (scells (l.filter f)) ∧ w.grownBy w' (some g) := by
  obtain ⟨d, rfl⟩ := lift_sm hs
  rw [List.length_map] at hl
  subst hl
  have hfil : (d.map (·.1)).filter f = (d.filter fun x => f x.1).map (·.1) := by rw [List.filter_map]; rfl
  obtain ⟨ks, hks⟩ : ∃ x, (d.filter fun x => f x.1) = x := ⟨_, rfl⟩
  have hkl : ks.length ≤ d.length := by rw [← hks]; exact List.length_filter_le _ _
  rw [hfil, hks, List.length_map]
  rcases hown.2 with ⟨he, _⟩ | ⟨g', cap', cur, he, hb, hg, hc, hm, hcs, ht⟩
  · cases he
  · cases he
    rw [Nat.mul_one] at ht hcs
    have hgl : g < w.heap.size := (Array.getElem?_eq_some_iff.1 hg).1
    have hH : Holds encSm w g 0 d.toArray := by
      intro j hj
      have hj' : j < d.length := by simpa using hj
      refine ⟨?_, by simp [World.frozen?, hg]⟩
      have := hown.cellAt j (by omega)
      rw [Nat.zero_add, this, ← enc_sm]
      simp [hj']
    have key := AnyE.slices_DeleteFunc Try.deletef encSm one_sm (fun x => !f x.1) 58 #[.pointer (some ⟨bx, 0, none⟩)] (enters_of Try.func58 (by kernel_rfl) rfl) zrSm (fun w => Try.zeroValue9 w)
      g 0 cap d.toArray w (fun W x hb => by
        refine (rem1_s x.1 x.2 bx mb nn D f W (cell_later hb hbox) (G.below hb)).mono ?_
        rintro e w' ⟨rfl, rfl⟩
        exact ⟨rfl, 0, rfl⟩) (fun m os dk x hsz => by
        have hgr : w.grownBy (sortWorld encSm w g 0 m dk os) (some g) := by
          refine grown_two (grown_put (q := m) dk) ⟨rfl, rfl, rfl, ?_, fun k hk _ => heap_grow_old _ _ hk⟩
          show _ ≤ (_ ++ os).size
          rw [Array.size_append]; omega
        refine (rem1_s x.1 x.2 bx mb nn D f _ (hgr.cell hbox (fun e => h1 (by cases e; rfl))) (G.kept hgr (fun e => h2 (by cases e; rfl)))).mono ?_
        rintro e w' ⟨rfl, rfl⟩
        exact ⟨rfl, 0, rfl⟩) hH (by simp; omega) (by simpa using hc)
    simp only [Bool.not_not, List.size_toArray, hks] at key
    refine key.mono ?_
    rintro e w' ⟨rfl, q, rfl⟩
    refine ⟨rfl, ?_, grown_put _⟩
    have ho : (putRow encSm (Sort.ahead w q) g 0 (ks ++ List.replicate (d.length - ks.length) zrSm).toArray).ownsRow base 9 1 (.slice (some ⟨g, 0, none⟩) d.length cap) d.length ((ks ++ List.replicate (d.length - ks.length) zrSm).map encSm) :=
      ⟨by simp; omega, .inr ⟨g, cap, _, rfl, hb, heap_put _ hg, hc, hm, by simp [putCells, hcs], by
        have hl2 : (ks ++ List.replicate (d.length - ks.length) zrSm).length = d.length := by rw [List.length_append, List.length_replicate]; omega
        have := take_put cur (ks ++ List.replicate (d.length - ks.length) zrSm) (by rw [hl2, hcs]; exact hc)
        rw [hl2] at this
        rw [Nat.mul_one]; exact this⟩⟩
    have hc2 := own_cut1 ho ks.length hkl
    rw [← List.map_take, List.take_left, enc_sm] at hc2
    exact hc2

end Go.Proofs.Ytahpocpagidahaa
