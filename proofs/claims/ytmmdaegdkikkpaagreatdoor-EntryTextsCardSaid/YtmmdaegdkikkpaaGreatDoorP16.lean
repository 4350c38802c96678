/-
  Texts of the schema layer and of those beneath it, joined: SchLgt, SchAlv, SchLaw, SchEnt, EntSet, EntL, EntVals, EntSrt, EntCk, SchOrd, SchNmR, SchChR, SchTyR, SchNvR, SchLnR, SchLow, SchLkR, SchMuR, SchMaR, SchVdR, EntNrm. Conditions stand at each contract.
-/
import Derived.Deep.DeepHandedRow
import Derived.Lay
import Derived.Shelf.Vars
import Derived.Stop.LaidErr
import Derived.Deep.Onto
import Derived.OneCell
import Derived.Test.YtmmdaegdkikkpaaGreatDoorCards
import Derived.Test.YtmmdaegdkikkpaaGreatDoorTie
import Derived.Test.YtmmdaegdkikkpaaGreatDoorP15
set_option linter.unusedVariables false
set_option linter.unusedSimpArgs false
set_option linter.unnecessarySimpa false

section
set_option maxRecDepth 100000
namespace Go.Proofs.YtmmdaegdkikkpaaGreatDoor
open Go.RowKit Go.PlainAid
structure AtS (a : At) : Prop where
 nm : a.1.size ≤ 300
 len : a.2.length ≤ 20
 each : ∀ v ∈ a.2, v.size ≤ 300
structure LightE (l : List At) : Prop where
 len : l.length ≤ 40
 each : ∀ a ∈ l, AtS a
theorem LightE.small {l : List At} (h : LightE l) : SmallA l := fun a ha => by
 have k := h.each a ha
 have k1 := k.nm
 exact ⟨by omega, fun v hv => by have := k.each v hv; omega⟩
theorem sumV_le : ∀ {l : List At}, (∀ a ∈ l, a.2.length ≤ 20) → sumV l ≤ l.length * 20
 | [], _ => by simp [sumV]
 | a :: l, h => by
  have h1 := h a (by simp)
  have h2 := sumV_le (l := l) (fun x hx => h x (by simp [hx]))
  rw [sumV_cons, List.length_cons]; omega
theorem LightE.few {l : List At} (h : LightE l) : Few l :=
 ⟨h.small, by have h1 := sumV_le (fun a ha => (h.each a ha).len); have h2 := h.len; omega, by have := h.len; omega⟩
structure EB (w W : World) (en : ByteArray) (ao : Option Addr) (n cap : Nat) : Prop where
 box : W.heap[w.heap.size]? = some (.cells #[.string en, .slice ao n cap] 37)
 low : Below w.heap.size w W
 big : w.heap.size < W.heap.size
theorem EB.step {w W V : World} {en : ByteArray} {ao : Option Addr} {n cap : Nat} (h : EB w W en ao n cap) (hb : Below W.heap.size W V) : EB w V en ao n cap :=
 ⟨(hb.block _ h.big).trans h.box, h.low.trans (hb.mono h.low.size), Nat.lt_of_lt_of_le h.big hb.size⟩
theorem EB.cells {w W : World} {en : ByteArray} {ao : Option Addr} {n cap : Nat} (h : EB w W en ao n cap) : W.cell? ⟨w.heap.size, 0, none⟩ = some (.string en) ∧ W.cell? ⟨w.heap.size, 1, none⟩ = some (.slice ao n cap) :=
 ⟨heap_cell h.box rfl, heap_cell h.box rfl⟩
theorem small_dec {l : List ByteArray} (h : l.all (fun v => decide (v.size ≤ 1000)) = true) : SmallS l := fun v hv => by
 have := List.all_eq_true.1 h v hv
 have := of_decide_eq_true this
 omega
theorem smallA_dec {l : List At} (h : l.all (fun a => decide (a.1.size ≤ 1000) && a.2.all (fun v => decide (v.size ≤ 1000))) = true) : SmallA l := fun a ha => by
 have := List.all_eq_true.1 h a ha
 rw [Bool.and_eq_true] at this
 exact ⟨by have := of_decide_eq_true this.1; omega, small_dec this.2⟩
structure SOk (w : World) : Prop where
 io : IntOk w
 mo : MaxOk w
 so : SynOk w
theorem SOk.below {w w' : World} (h : SOk w) (hb : Below w.heap.size w w') : SOk w' := ⟨h.io.below hb, h.mo.below hb h.mo.lt, h.so.below hb⟩
structure AV (w W : World) (b : Nat) (ao : Option Addr) (n cap : Nat) (bo : Option Addr) (m dap : Nat) (ts : List Ty) (cs : List Cl) : Prop where
 box : Kb W b (.cells #[.slice ao n cap, .slice bo m dap] 25)
 sch : SchV W (.agg #[.slice ao n cap, .slice bo m dap]) ts cs
 ok : SOk W
 low : Below w.heap.size w W
theorem AV.step {w W V : World} {b : Nat} {ao : Option Addr} {n cap : Nat} {bo : Option Addr} {m dap : Nat} {ts : List Ty} {cs : List Cl} (h : AV w W b ao n cap bo m dap ts cs) (hb : Below W.heap.size W V) : AV w V b ao n cap bo m dap ts cs :=
 ⟨h.box.step hb, h.sch.below hb, h.ok.below hb, h.low.trans (hb.mono h.low.size)⟩
theorem ts_kb {W : World} {b : Nat} {T : List Tr} (h : Kb W b (.cells (tcells T).toArray 58)) (hl : T.length ≤ maxLen) : TsAt W (some ⟨b, 0, none⟩) T.length T.length T :=
 ⟨rfl, Nat.le_refl _, hl, fun _ => ⟨b, 0, rfl, h.big, fun j u hj => by
  rw [Nat.zero_add]
  refine h.cell ?_
  rw [List.getElem?_toArray]; exact hj⟩⟩
end Go.Proofs.YtmmdaegdkikkpaaGreatDoor
end

section
set_option maxRecDepth 100000
namespace Go.Proofs.YtmmdaegdkikkpaaGreatDoor
open Go.ChangeShapes Go.WideShapes Go.ChangeAt Go.RowKit
theorem max_ok {W : World} (h : W.ShapedOpen Tryz.prog) : MaxOk W :=
 cell_of_shapedOpen_int (zero := #[.int .i64 0]) (t := 3) h (of_decide_eq_true (by kernel_rfl)) (by kernel_rfl) rfl (by kernel_rfl) (by kernel_rfl) Tryz.underlying3
theorem witness_row {H : Type} {enc : TypeId × Value → H} {C : Checked} {os : Os} {f : FuncId} {fn : Func} {s : OpenSpec} {conds : List PathCond} {apart : Bool} {laid : List (String × DataW Unit)} (modest : Bool) (w0 : World) (args : Array Value) (hos : w0.os = os)
  (hsh : (w0.forCall (fun _ _ => 0) ⟨#[], args, []⟩).Shaped C.prog)
  (hok : Input.okWideB C.prog (w0.forCall (fun _ _ => 0) ⟨#[], args, []⟩) f ⟨#[], args, []⟩ = true)
  (hrow : s.preRow enc C.prog fn conds apart laid (w0.forCall (fun _ _ => 0) ⟨#[], args, []⟩).memory args) :
  ∃ (w : World) (tape : Tape) (i : Input), w.os = os ∧ (w.forCall tape i).Shaped C.prog ∧ i.vars = [] ∧ Input.okWide C.prog (w.forCall tape i) .any w.heap.size f i ∧
   s.preRow enc C.prog fn conds apart laid (w.forCall tape i).memory i.args ∧ ({ modest := modest } : Assume).holds C.prog (lone (Frame.enter C.prog f i.args .normal) [] (w.forCall tape i)) :=
 ⟨w0, fun _ _ => 0, ⟨#[], args, []⟩, hos, hsh, (Input.okWide_of_okWideB (base := 0) hok).1, (Input.okWide_of_okWideB hok).2, hrow, by
  simp only [Assume.holds]
  exact ⟨by simp, by simp, fun _ => Modest.zero, by simp, by simp⟩⟩
theorem star : "*" ++ "errors.errorString" = "*errors.errorString" := by decide
theorem tp_row (u : TypeId) (h : Tryz.prog.typeName? 3 u = some "*errors.errorString") : u = 279 :=
 typeName_ptr_named (nm := "errors.errorString") (by rw [star]; kernel_rfl) (by kernel_rfl) (by decide) u (by rw [star]; exact h)
end Go.Proofs.YtmmdaegdkikkpaaGreatDoor
end

section
set_option maxRecDepth 100000
namespace Go.Proofs.YtmmdaegdkikkpaaGreatDoor
open Go.ChangeShapes Go.WideShapes Go.ChangeAt Go.RowKit Go.PlainAid
theorem trod_attrsR {H : Type} {enc : TypeId × Value → H} {W : World} {v : Value} {y : DataW H × List MemPlace} {fuel : Nat}
  (hf : DataW.trod enc Tryz.prog W 0 (fun _ => true) true fuel 35 [v] = some y) (hz : ∀ n ∈ y.1.weights Tryz.prog 35, n ≤ reachBytes) : ∃ ao n cap l, v = .slice ao n cap ∧ AttrsAt W ao n cap l ∧ RA l := by
 rcases Go.Deep.open_slice_pairs Tryz.underlying35 Tryz.underlying58 cells_attr rfl rfl (by kernel_rfl) (by kernel_rfl) hf with ⟨hcs, hx⟩ | ⟨a, len', cap', m, n, V0, V1, D0, D1, P0, P1, hcs, _, hl, hm, hmm, hx, hcell⟩
 ·simp only [List.cons.injEq, and_true] at hcs
  exact ⟨none, 0, 0, [], hcs, ⟨rfl, Nat.le_refl _, by unfold maxLen; omega, fun h => absurd h (by omega)⟩, fun a ha => (List.not_mem_nil ha).elim⟩
 ·simp only [List.cons.injEq, and_true] at hcs
  subst hcs
  simp only [if_true] at hmm
  rw [hmm] at hcell
  by_cases hn : 0 < len'
  ·obtain ⟨b, off, spot⟩ := a
   have h1 := (hcell 0 (by omega)).1
   have hspot : spot = none := by simpa [Addr.add] using World.cell?_spot h1
   subst hspot
   have hb : b < W.heap.size := by
    rw [add_plain] at h1
    exact World.block_lt_of_cell? W _ h1
   have hd : y.1 = .slice ((List.range len').map fun i => .agg [D0 i, D1 i]) ((List.range (m - len')).map fun j => .agg [D0 (len' + j), D1 (len' + j)]) := congrArg Prod.fst hx
   obtain ⟨l, hpl, hps, hq⟩ := choose_attrsR (w := W) (b := b) (off := off) (len := len') (Q := fun a => a.1.size ≤ 140737488355328 ∧ RS a.2) (fun i hi => by
    obtain ⟨c0, c1, t0, t1⟩ := hcell i (by omega)
    rw [add_plain] at c0 c1
    have hw : ∀ n, n ∈ (DataW.agg [D0 i, D1 i]).weights Tryz.prog 58 → n ≤ reachBytes := fun n hn => hz n (by
     rw [hd]
     exact slice_mem Tryz.underlying35 (List.mem_map.2 ⟨i, List.mem_range.2 hi, rfl⟩) hn)
    have hw0 : ∀ n, n ∈ (D0 i).weights Tryz.prog 9 → n ≤ reachBytes := fun n hn => hw n (by
     simp only [DataW.weights, Tryz.underlying58, DataW.weightsEach, List.map_cons, List.map_nil, List.mem_append]
     exact .inl hn)
    have hw1 : ∀ n, n ∈ (D1 i).weights Tryz.prog 55 → n ≤ reachBytes := fun n hn => hw n (by
     simp only [DataW.weights, Tryz.underlying58, DataW.weightsEach, List.map_cons, List.map_nil, List.mem_append]
     exact .inr (.inl hn))
    obtain ⟨s0, e0, ed, _⟩ := DataW.trod_string Tryz.underlying9 t0
    simp only [List.cons.injEq, and_true] at e0
    have ed0 : D0 i = .lit (.string s0.data.toList) := congrArg Prod.fst ed
    obtain ⟨aj, nj, cj, ps, e1, hs, hr⟩ := trod_strsR t1 hw1
    rw [e0] at c0
    rw [e1, ← Nat.add_assoc] at c1
    refine ⟨(s0, ps), ⟨c0, aj, nj, cj, c1, hs⟩, ?_, hr⟩
    rw [ed0] at hw0
    refine reach_le (hw0 _ ?_)
    simp only [DataW.weights, List.mem_singleton]
    exact (str_len s0).symm)
   exact ⟨_, len', cap', l, rfl, ⟨hpl, hl, hm, fun _ => ⟨b, off, rfl, hb, hps⟩⟩, hq⟩
  ·exact ⟨_, len', cap', [], rfl, ⟨by simp; omega, hl, hm, fun h => absurd h hn⟩, fun a ha => (List.not_mem_nil ha).elim⟩
theorem open_entryR {H : Type} {enc : TypeId × Value → H} {W : World} {base : Nat} {v : Value} {d : DataW H} {p : List MemPlace} (hval : Value.okWide Tryz.prog W .any base 37 v)
  (h0 : DataW.Trod enc Tryz.prog W 0 (fun _ => true) true 37 v d p) (hz : ∀ n ∈ d.weights Tryz.prog 37, n ≤ reachBytes) :
  ∃ en ao n cap l, v = .agg #[.string en, .slice ao n cap] ∧ en.size ≤ 140737488355328 ∧ AttrsAt W ao n cap l ∧ RA l := by
 obtain ⟨v0, v1, y0, y1, n, rfl, rfl, _, h1, h2⟩ := Go.Joins.open_agg2 Tryz.underlying37 (by kernel_rfl) (by kernel_rfl) hval h0
 simp only [DataW.weights, Tryz.underlying37, DataW.weightsEach, List.map_cons, List.map_nil, List.mem_append] at hz
 obtain ⟨s0, rfl, z0⟩ := trod_strR h1 fun n hn => hz n (.inl hn)
 obtain ⟨ao, m, cap, l, rfl, hl, rl⟩ := trod_attrsR h2 fun n hn => hz n (.inr (.inl hn))
 exact ⟨s0, ao, m, cap, l, rfl, z0, hl, rl⟩
end Go.Proofs.YtmmdaegdkikkpaaGreatDoor
end

section
set_option maxRecDepth 100000
namespace Go.Proofs.YtmmdaegdkikkpaaGreatDoor
open Go.RowKit Go.PlainAid Go.Maps Go.ChangeMaps
theorem insS_in {a : List ByteArray} (h : Asc a) {x : ByteArray} (hx : x ∈ a) : insS a x = a := asc_ext (insS_asc h) h fun y => by
 rw [insS_mem]
 exact ⟨fun k => k.elim id fun e => e ▸ hx, .inl⟩
theorem fold_full : ∀ (l a : List ByteArray), Asc a → (l.foldl insS a).length = a.length + l.length → l.Nodup
 | [], _, _, _ => List.Pairwise.nil
 | x :: l, a, h, e => by
  have key : ∀ (l a : List ByteArray), Asc a → (l.foldl insS a).length = a.length + l.length → ∀ y ∈ l, y ∉ a := by
   intro l
   induction l with
   | nil => intro _ _ _ y hy; cases hy
   | cons x l ih =>
    intro a h e y hy hya
    have h1 := foldl_len l (insS a x)
    have h2 := insS_len a x
    rw [List.foldl_cons, List.length_cons] at e
    rcases List.mem_cons.1 hy with rfl | hy
    ·rw [insS_in h hya] at e h1
     omega
    ·exact ih (insS a x) (insS_asc h) (by omega) y hy (insS_mem.2 (.inl hya))
  have h1 := foldl_len l (insS a x)
  have h2 := insS_len a x
  rw [List.foldl_cons, List.length_cons] at e
  have e2 : (l.foldl insS (insS a x)).length = (insS a x).length + l.length := by omega
  exact List.nodup_cons.2 ⟨fun hx => key l _ (insS_asc h) e2 x hx (insS_mem.2 (.inr rfl)), fold_full l _ (insS_asc h) e2⟩
theorem sortU_full {l : List ByteArray} (h : (sortU l).length = l.length) : l.Nodup := fold_full l [] List.Pairwise.nil (by simpa [sortU] using h)
theorem sortU_less {l : List ByteArray} (h : ¬ l.Nodup) : (sortU l).length < l.length := by
 have h1 := sortU_len l
 rcases Nat.lt_or_ge (sortU l).length l.length with k | k
 ·exact k
 ·exact absurd (sortU_full (Nat.le_antisymm h1 k)) h
theorem sortU_add (ks : List ByteArray) (k : ByteArray) : (sortU (ks ++ [k])).length = if memB ks k = true then (sortU ks).length else (sortU ks).length + 1 := by
 rw [sortU_snoc]
 by_cases h : memB ks k = true
 ·rw [if_pos h, insS_in (sortU_asc ks) (sortU_mem.2 (memB_iff.1 h))]
 ·rw [if_neg h, insS_len_new (sortU_asc ks) fun hx => h (memB_iff.2 (sortU_mem.1 hx))]
structure SetZ (w : World) (b n : Nat) (D : DataW Unit) (ks : List ByteArray) : Prop where
 map : w.ownsMap Tryz.prog 9 (plainElem Tryz.prog 4) b n D
 has : ∀ k, Maps.has D (klit k) = memB ks k
 siz : Maps.size D = (sortU ks).length
theorem setZ_made (w : World) : SetZ (w.alloc (.map #[] 0)) w.heap.size 0 (.map []) [] where
 map := World.ownsMap_made w _ _ _
 has k := rfl
 siz := rfl
theorem SetZ.lt {w : World} {b n : Nat} {D : DataW Unit} {ks : List ByteArray} (h : SetZ w b n D ks) : b < w.heap.size := h.map.lt
theorem SetZ.kept {w w' : World} {b n : Nat} {D : DataW Unit} {ks : List ByteArray} {row : Option Nat} (G : SetZ w b n D ks) (hg : w.grownBy w' row) (hne : some b ≠ row) : SetZ w' b n D ks := ⟨G.map.kept hg hne, G.has, G.siz⟩
theorem SetZ.below {w w' : World} {b n B : Nat} {D : DataW Unit} {ks : List ByteArray} (G : SetZ w b n D ks) (hb : Below B w w') (hB : b < B) : SetZ w' b n D ks := by
 obtain ⟨⟨es, clock, he, h1, h2⟩, h3, h4⟩ := G
 exact ⟨⟨es, clock, by rw [hb.block b hB]; exact he, h1, h2⟩, h3, h4⟩
theorem SetZ.store {w : World} {b n : Nat} {D : DataW Unit} {ks : List ByteArray} (G : SetZ w b n D ks) (k : ByteArray) (hk : k.size ≤ maxLen) (hn : n < maxLen) :
  ∃ w', (Instr.mapUpdate 150 (.map (some b)) (.string k) (.bool true)).run Tryz.prog w = .ok () w' ∧ SetZ w' b (n + 1) (D.put (klit k) (.lit (.bool true))) (ks ++ [k]) ∧ w.grownBy w' (some b) := by
 obtain ⟨w', hrun, hm, hg⟩ := G.map.update (t := 150) (e := 4) (string_keyed Tryz.underlying9) Tryz.underlying150 hn (klit_key k hk) (plainElem_bool Tryz.underlying4 true)
 refine ⟨w', hrun, ⟨hm, fun j => ?_, ?_⟩, hg⟩
 ·rw [memB_snoc]
  by_cases e : k = j
  ·subst e
   rw [has_put_same G.map.isMap (by unfold klit; trivial)]; simp
  ·rw [has_put_other (fun h => e (klit_one h).symm), G.has j]
   simp [e]
 ·rw [size_put (G.map.tidy (string_keyed Tryz.underlying9)), G.has, G.siz, sortU_add]
end Go.Proofs.YtmmdaegdkikkpaaGreatDoor
end

section
set_option maxRecDepth 100000
namespace Go.Proofs.YtmmdaegdkikkpaaGreatDoor
open Go.RowKit Go.PlainAid
theorem clean_sz {v : ByteArray} (h : cleanB v = true) : v.size ≤ 256 := by
 unfold cleanB at h
 simp only [Bool.and_eq_true, decide_eq_true_eq] at h
 exact h.1.1.1.2
theorem name_sz {v : ByteArray} (h : nameB v = true) : v.size ≤ 64 := by
 unfold nameB at h
 simp only [Bool.and_eq_true, decide_eq_true_eq] at h
 exact h.1.1.2
def fmsL (T : List Ty) (n : ByteArray) (vs : List ByteArray) : List ByteArray := vs.map (nrmV T n)
def fmsE (T : List Ty) (n : ByteArray) (vs : List ByteArray) : Int := firstE (fun j => nrmE T n (partAt vs j)) vs.length
def nvE (T : List Ty) (n : ByteArray) (vs : List ByteArray) : Int := if fmsE T n vs ≠ 0 then fmsE T n vs else if (fmsL T n vs).Nodup then 0 else 7
def nvL (T : List Ty) (n : ByteArray) (vs : List ByteArray) : List ByteArray := if nvE T n vs = 0 then fmsL T n vs else []
theorem fms_len (T : List Ty) (n : ByteArray) (vs : List ByteArray) : (fmsL T n vs).length = vs.length := by unfold fmsL; exact List.length_map _
theorem fms_take (T : List Ty) (n : ByteArray) (vs : List ByteArray) (k : Nat) (h : k < vs.length) : fmsL T n (vs.take (k + 1)) = fmsL T n (vs.take k) ++ [nrmV T n (partAt vs k)] := by
 unfold fmsL
 rw [take_snoc vs k h, List.map_append]; rfl
theorem part_get (l : List ByteArray) (j : Nat) (h : j < l.length) : partAt l j = l[j] := by
 unfold partAt
 rw [List.getD_eq_getElem?_getD, List.getElem?_eq_getElem h]; rfl
theorem nrm_clean {T : List Ty} {n v : ByteArray} (h : nrmE T n v = 0) : cleanB (nrmV T n v) = true := by
 unfold nrmE at h
 unfold nrmV
 cases e : tyOf T n with
 | none => rw [e] at h; cases h
 | some t =>
  rw [e] at h
  simp only at h ⊢
  unfold normE at h
  cases f : normS t.syn v with
  | none => rw [f] at h; cases h
  | some g =>
   rw [Option.getD_some]
   unfold normS at f
   cases k : formS t.syn v with
   | none => rw [k] at f; cases f
   | some y =>
    rw [k] at f
    simp only [Option.bind_some] at f
    split at f
    ·rename_i c
     rw [← Option.some.inj f]; exact c.2
    ·cases f
theorem nrm_sz {T : List Ty} {n v : ByteArray} (h : nrmE T n v = 0) : (nrmV T n v).size ≤ 256 := clean_sz (nrm_clean h)
theorem fms_all {T : List Ty} {n : ByteArray} {vs : List ByteArray} (h : fmsE T n vs = 0) : ∀ v ∈ vs, nrmE T n v = 0 := fun v hv => by
 obtain ⟨j, hj, rfl⟩ := List.getElem_of_mem hv
 have h1 := firstE_all h j hj
 rwa [part_get vs j hj] at h1
/-! ### an entry's attributes -/
def nmE (T : List Ty) (L : List At) : Int := firstE (fun j => nvE T (atD L j).1 (atD L j).2) L.length
def nmL (T : List Ty) (L : List At) : List At := L.map fun a => (a.1, sortU (fmsL T a.1 a.2))
theorem nm_len (T : List Ty) (L : List At) : (nmL T L).length = L.length := by unfold nmL; exact List.length_map _
theorem nm_NF {T : List Ty} {L : List At} (h : NF L) : NF (nmL T L) where
 asc := by
  unfold nmL
  rw [List.map_map]
  exact h.asc
 low a ha := by
  obtain ⟨b, hb, rfl⟩ := List.mem_map.1 ha
  exact h.low b hb
 vasc a ha := by
  obtain ⟨b, hb, rfl⟩ := List.mem_map.1 ha
  exact sortU_asc _
 ne a ha := by
  obtain ⟨b, hb, rfl⟩ := List.mem_map.1 ha
  intro e
  have := sortU_nil.1 e
  exact h.ne b hb (List.map_eq_nil_iff.1 this)
def orig (l : List At) (n : ByteArray) : List ByteArray := ((l.filter fun a => decide (lowS a.1 = n)).getLast?.map (·.2)).getD []
theorem nf_atD (l : List At) (j : Nat) (h : j < (nf l).length) : atD (nf l) j = (partAt (names l) j, vals l (partAt (names l) j)) := by
 have hj : j < (names l).length := by rw [← nf_names, List.length_map]; exact h
 unfold atD nf
 rw [List.getD_eq_getElem?_getD, List.getElem?_map, List.getElem?_eq_getElem hj, part_get _ _ hj]; rfl
theorem nf_lenN (l : List At) : (nf l).length = (names l).length := by rw [← nf_names, List.length_map]
theorem nm_all {T : List Ty} {L : List At} (h : nmE T L = 0) : ∀ a ∈ L, nvE T a.1 a.2 = 0 := fun a ha => by
 obtain ⟨j, hj, rfl⟩ := mem_at ha
 exact firstE_all h j hj
theorem nv_fms {T : List Ty} {n : ByteArray} {vs : List ByteArray} (h : nvE T n vs = 0) : fmsE T n vs = 0 ∧ (fmsL T n vs).Nodup := by
 unfold nvE at h
 by_cases c : fmsE T n vs = 0
 ·rw [if_neg (by simp [c])] at h
  by_cases d : (fmsL T n vs).Nodup
  ·exact ⟨c, d⟩
  ·rw [if_neg d] at h; cases h
 ·rw [if_pos c] at h; exact absurd h c
theorem fms_clean {T : List Ty} {n : ByteArray} {vs : List ByteArray} (h : fmsE T n vs = 0) : ∀ v ∈ fmsL T n vs, cleanB v = true := fun v hv => by
 obtain ⟨x, hx, rfl⟩ := List.mem_map.1 hv
 exact nrm_clean (fms_all h x hx)
theorem nm_chk {T : List Ty} {l : List At} (h : chkA l = 0) (hE : nmE T (nf l) = 0) : chkA (nmL T (nf l)) = 0 := by
 have h1 := chk_ok (nf_chk h)
 refine ok_chk (nm_NF (nf_NF l)) (by rw [nm_len]; exact h1.len) fun a ha => ?_
 obtain ⟨b, hb, rfl⟩ := List.mem_map.1 ha
 have k := nv_fms (nm_all hE b hb)
 refine ⟨(h1.each b hb).1, ?_, fun v hv => fms_clean k.1 v (sortU_mem.1 hv)⟩
 have := sortU_len (fmsL T b.1 b.2)
 rw [fms_len] at this
 have := (h1.each b hb).2.1
 simp only
 omega
end Go.Proofs.YtmmdaegdkikkpaaGreatDoor
end

section
set_option maxRecDepth 100000
namespace Go.Proofs.YtmmdaegdkikkpaaGreatDoor
open Go.RowKit Go.PlainAid Go.Maps Go.ChangeMaps
structure NVI (T : List Ty) (n : ByteArray) (vs : List ByteArray) (w : World) (box : Obj) (k : Nat) (D : DataW Unit) (v : Value) (wr : World) : Prop where
 zero : ∀ q, q < k → nrmE T n (partAt vs q) = 0
 set : SetZ wr (w.heap.size + 1) k D (fmsL T n (vs.take k))
 row : wr.ownsRow (w.heap.size + 1 + 1) 9 1 v k (scells (fmsL T n (vs.take k)))
 box : Kb wr w.heap.size box
 low : Below w.heap.size w wr
theorem NVI.below {T : List Ty} {n : ByteArray} {vs : List ByteArray} {w : World} {box : Obj} {k : Nat} {D : DataW Unit} {v : Value} {wr V : World} (h : NVI T n vs w box k D v wr) (hb : Below wr.heap.size wr V) : NVI T n vs w box k D v V :=
 ⟨h.zero, h.set.below hb h.set.lt, own_below h.row hb, h.box.step hb, h.low.trans (hb.mono h.low.size)⟩
theorem nvE_fault {T : List Ty} {n : ByteArray} {vs : List ByteArray} {k : Nat} (hk : k < vs.length) (h : ∀ q, q < k → nrmE T n (partAt vs q) = 0) {e : Int} (he : nrmE T n (partAt vs k) = e) (h0 : e ≠ 0) : nvE T n vs = e ∧ nvL T n vs = [] := by
 have h1 : fmsE T n vs = e := by
  unfold fmsE
  rw [firstE_hit h (by rw [he]; exact h0) hk, he]
 have h2 : nvE T n vs = e := by unfold nvE; rw [h1, if_pos h0]
 exact ⟨h2, by unfold nvL; rw [if_neg (by rw [h2]; exact h0)]⟩
theorem nvE_end {T : List Ty} {n : ByteArray} {vs : List ByteArray} (h : ∀ q, q < vs.length → nrmE T n (partAt vs q) = 0) : fmsE T n vs = 0 := firstE_zero h
theorem nvE_twice {T : List Ty} {n : ByteArray} {vs : List ByteArray} (h : fmsE T n vs = 0) (hn : ¬ (fmsL T n vs).Nodup) : nvE T n vs = 7 ∧ nvL T n vs = [] := by
 have h2 : nvE T n vs = 7 := by unfold nvE; rw [if_neg (by simp [h]), if_neg hn]
 exact ⟨h2, by unfold nvL; rw [if_neg (by rw [h2]; decide)]⟩
theorem nvE_ok {T : List Ty} {n : ByteArray} {vs : List ByteArray} (h : fmsE T n vs = 0) (hn : (fmsL T n vs).Nodup) : nvE T n vs = 0 ∧ nvL T n vs = fmsL T n vs := by
 have h2 : nvE T n vs = 0 := by unfold nvE; rw [if_neg (by simp [h]), if_pos hn]
 exact ⟨h2, by unfold nvL; rw [if_pos h2]⟩
def NvP (T : List Ty) (n : ByteArray) (vs : List ByteArray) (w : World) (e : Ending) (w' : World) : Prop :=
 ∃ u, e = .returned (.tuple #[u, .int .i64 (nvE T n vs)]) ∧ w'.ownsRow w.heap.size 9 1 u (nvL T n vs).length (scells (nvL T n vs)) ∧ Below w.heap.size w w'
theorem NvP.no {T : List Ty} {n : ByteArray} {vs : List ByteArray} {w w' : World} {c : Int} (h : nvE T n vs = c ∧ nvL T n vs = []) (hb : Below w.heap.size w w') : NvP T n vs w (.returned (.tuple #[.slice none 0 0, .int .i64 c])) w' :=
 ⟨_, by rw [h.1], by rw [h.2]; exact World.ownsRow_nil _ _ _ _, hb⟩
theorem row_lower {w : World} {base B n size : Nat} {e : TypeId} {v : Value} {xs : List Value} (h : w.ownsRow B e size v n xs) (hB : base ≤ B) : w.ownsRow base e size v n xs := by
 refine ⟨h.1, ?_⟩
 rcases h.2 with k | ⟨g, cap, cur, e1, h2, h3⟩
 ·exact .inl k
 ·exact .inr ⟨g, cap, cur, e1, Nat.le_trans hB h2, h3⟩
set_option maxHeartbeats 8000000 in
theorem nvals_s (to : Option Addr) (tn tc : Nat) (co : Option Addr) (cn cc : Nat) (ts : List Ty) (cs : List Cl) (n : ByteArray) (ao : Option Addr) (m cap : Nat) (vs : List ByteArray) (w : World) (h : SchV w (.agg #[.slice to tn tc, .slice co cn cc]) ts cs) (hv : StrsAt w ao m cap vs) (hn : n.size ≤ 1000000000) (hz : SmallS vs) (hm : m ≤ 1100000) (ho : IntOk w) :
  Calls Tryz.prog 77 #[.agg #[.slice to tn tc, .slice co cn cc], .string n, .slice ao m cap] w fun e w' => NvP (soundT ts cs) n vs w e w' := by
 obtain ⟨h1, h2, h3, h4⟩ := hv
 subst h1
 unfold maxLen at h3
 have H4 := Lib.hid h4; clear h4
 have HZ := Lib.hid hz; clear hz
 have HS := Lib.hid h; clear h
 have HO := Lib.hid ho; clear ho
 obtain ⟨T, hT⟩ : ∃ T, soundT ts cs = T := ⟨_, rfl⟩
 have HN := Lib.hid (fun (V : World) (s : ByteArray) (hV : SchV V (.agg #[.slice to tn tc, .slice co cn cc]) ts cs) (hs : s.size ≤ 1100000) (hO : IntOk V) => normalF_s _ ts cs n s V hV hn hs hO)
 rw [hT] at HN ⊢
 clear hT
 have hbx := below_al w (.cells #[.slice to tn tc, .slice co cn cc] 25)
 have HI0 := Lib.hid (show NVI T n vs w (.cells #[.slice to tn tc, .slice co cn cc] 25) 0 (.map []) (.slice none 0 0) ((w.alloc (.cells #[.slice to tn tc, .slice co cn cc] 25)).alloc (.map #[] 0)) from
  ⟨(fun q hq => absurd hq (Nat.not_lt_zero _)), by simpa [fmsL] using setZ_made (w.alloc (.cells #[.slice to tn tc, .slice co cn cc] 25)), World.ownsRow_nil _ _ _ _, (kbl_new w _).step (below_al _ _), hbx.trans ((below_al _ _).mono hbx.size)⟩)
 clear hbx
 have hmm := @run_makeMap Tryz.prog
 go_enter Tryz.func77, Tryz.ntmps77
 go_wp2_with fail
 clear hmm
 go_loopw [9, 11, 12, 13, 17] (fun s9 _ _ _ s17 wr => ∃ (k : Nat) (D : DataW Unit), k ≤ vs.length ∧ s17 = .int .i64 k ∧ Hid (NVI T n vs w (.cells #[.slice to tn tc, .slice co cn cc] 25) k D s9 wr)) (fun _ _ _ _ s17 _ => vs.length - (intOf s17).toNat)
 case atStart => exact ⟨0, _, Nat.zero_le _, rfl, HI0⟩
 case round =>
  clear HI0
  obtain ⟨k, D, hk, rfl, HI⟩ := hrel
  by_cases hlt : k < vs.length
  ·obtain ⟨b, off, rfl, hs⟩ := H4.out (by omega)
   have hcell := (hs.below HI.out.low hs.1).2 k hlt
   clear hs
   obtain ⟨p, hpe⟩ : ∃ p, partAt vs k = p := ⟨_, rfl⟩
   have hps : p.size ≤ 1100000 := by rw [← hpe]; exact HZ.out _ (part_mem vs k hlt)
   rw [hpe] at hcell
   have HPe := Lib.hid hpe
   have HT := Lib.hid (show fmsL T n (vs.take (k + 1)) = fmsL T n (vs.take k) ++ [nrmV T n p] by rw [← hpe]; exact fms_take T n vs k hlt)
   clear hpe
   have d1 : (k : Int) < (vs.length : Int) := by omega
   obtain ⟨q0, q1⟩ : wr.cell? ⟨w.heap.size, 0, none⟩ = some (.slice to tn tc) ∧ wr.cell? ⟨w.heap.size, 1, none⟩ = some (.slice co cn cc) := ⟨HI.out.box.cell rfl, HI.out.box.cell rfl⟩
   have HNk := Lib.hid (HN.out wr p (HS.out.below HI.out.low) hps (HO.out.below HI.out.low))
   obtain ⟨c, hc⟩ : ∃ c, nrmE T n p = c := ⟨_, rfl⟩
   obtain ⟨f, hf⟩ : ∃ f, nrmV T n p = f := ⟨_, rfl⟩
   rw [hc, hf] at HNk
   rw [hf] at HT
   have HC := Lib.hid (And.intro hc hf)
   clear hc hf
   by_cases h0 : c = 0
   ·subst h0
    have hfz : f.size ≤ 256 := by rw [← HC.out.2]; exact nrm_sz HC.out.1
    go_wp2_with fail
    refine HNk.out.mono ?_
    rintro e w1 ⟨rfl, hb⟩
    have HI1 := Lib.hid (HI.out.below hb)
    obtain ⟨w2, hrun, hG, hgr⟩ := HI1.out.set.store f (by unfold maxLen; omega) (by unfold maxLen; omega)
    have hown2 := HI1.out.row.kept hgr (by
     cases hr : u9.ownBlock
     ·exact .inl rfl
     ·refine .inr fun e => ?_
      have := (HI1.out.row.lt _ hr).1
      rw [Option.some.inj (e)] at this
      omega)
    have HG := Lib.hid hG
    have HLow2 := Lib.hid (HI1.out.low.grown hgr HI1.out.low.size (fun j hj => by cases hj; exact Nat.le_succ _))
    have HBox2 := Lib.hid (show Kb w2 w.heap.size (.cells #[.slice to tn tc, .slice co cn cc] 25) from (hgr.block _ HI1.out.box.big (by simp)).trans HI1.out.box)
    have hbig : w.heap.size + 1 + 1 ≤ w2.heap.size := by have := HG.out.lt; omega
    clear hb hG hgr q0 q1
    go_wp2_with (at_builtin; go_must (refine push_str w2 hown2 (.tmp 33) (.tmp 35) f ?_ ?_ ?_ ?_ ?_ ?_ ?_; exact rfl; exact rfl; exact rfl; exact rfl; omega; exact hbig; intro v3 w3 hown3 hb3))
    go_roundw
    case rel =>
     refine ⟨k + 1, D.put (klit f) (.lit (.bool true)), by omega, by go_num, Lib.hid ⟨fun q hq => ?_, ?_, ?_, (hb3.block _ (by omega)).trans HBox2.out, HLow2.out.trans (hb3.mono (by omega))⟩⟩
     ·by_cases e : q = k
      ·rw [e, HPe.out]; exact HC.out.1
      ·exact HI.out.zero q (by omega)
     ·rw [HT.out]; exact HG.out.below hb3 (Nat.lt_succ_self _)
     ·rw [HT.out]; simpa [scells] using hown3
    case measure => simp [intOf]; omega
   ·have HE := Lib.hid (nvE_fault hlt HI.out.zero (by rw [HPe.out]; exact HC.out.1) h0)
    have d2 : (c != 0) = true := by simpa using h0
    clear h0
    go_wp2_with fail
    refine HNk.out.mono ?_
    rintro e w1 ⟨rfl, hb⟩
    have HB1 := Lib.hid (HI.out.below hb).low
    clear hb
    go_wp2_with fail
    go_ret2
    exact NvP.no HE.out HB1.out
  ·obtain rfl : k = vs.length := by omega
   have hF0 := nvE_end HI.out.zero
   have hset := HI.out.set
   have hrow := HI.out.row
   rw [List.take_length] at hset hrow
   have HR := Lib.hid hrow
   have hmap := hset.map
   have HZz := Lib.hid hset.siz
   obtain ⟨so, sc, rfl, _⟩ := strs_own hrow (fms_len T n vs)
   have HFz := Lib.hid hF0
   have HFl := Lib.hid (fms_len T n vs)
   have HLw := Lib.hid HI.out.low
   clear hset hrow hF0
   obtain ⟨z, hz⟩ : ∃ z, Maps.size D = z := ⟨_, rfl⟩
   have hzl : z ≤ vs.length := by rw [← hz, HZz.out, ← HFl.out]; exact sortU_len _
   by_cases hnd : (fmsL T n vs).Nodup
   ·have hze : z = vs.length := by rw [← hz, HZz.out, sortU_len_new hnd, HFl.out]
    have HE := Lib.hid (nvE_ok HFz.out hnd)
    have d2 : ¬ ((z : Int) < (vs.length : Int)) := by omega
    clear hnd hze
    go_wp2_with (at_len; refine wpList_len_own _ rfl _ 150 rfl 9 4 Tryz.underlying150 _ _ _ D rfl hmap ?_; rw [hz])
    go_ret2
    exact ⟨_, by rw [HE.out.1]; rfl, by rw [HE.out.2, HFl.out]; exact row_lower HR.out (by omega), HLw.out⟩
   ·have hze : z < vs.length := by rw [← hz, HZz.out, ← HFl.out]; exact sortU_less hnd
    have HE := Lib.hid (nvE_twice HFz.out hnd)
    have d2 : (z : Int) < (vs.length : Int) := by omega
    clear hnd
    go_wp2_with (at_len; refine wpList_len_own _ rfl _ 150 rfl 9 4 Tryz.underlying150 _ _ _ D rfl hmap ?_; rw [hz])
    go_ret2
    exact NvP.no HE.out HLw.out
end Go.Proofs.YtmmdaegdkikkpaaGreatDoor
end

section
set_option maxRecDepth 100000
namespace Go.Proofs.YtmmdaegdkikkpaaGreatDoor
open Go.RowKit Go.PlainAid Go.Sort Go.Lib
theorem nodup_sorted {l : List ByteArray} (h : l.Nodup) : ((l.map fun s => s.data.toList).mergeSort fun x y => decide (x ≤ y)).map toB = sortU l := by
 obtain ⟨ss, hss⟩ : ∃ ss, (l.map fun s => s.data.toList) = ss := ⟨_, rfl⟩
 rw [hss]
 have hs := List.pairwise_mergeSort (le := fun (x y : List UInt8) => decide (x ≤ y)) (fun a b c h1 h2 => decide_eq_true (List.le_trans (of_decide_eq_true h1) (of_decide_eq_true h2))) (fun a b => by
  rcases List.le_total a b with k | k
  ·simp [k]
  ·simp [k]) ss
 have hp := List.mergeSort_perm ss (fun x y => decide (x ≤ y))
 obtain ⟨zs, hz⟩ : ∃ zs, (ss.mergeSort fun x y => decide (x ≤ y)) = zs := ⟨_, rfl⟩
 rw [hz] at hs hp ⊢
 have hnd : ss.Nodup := by
  rw [← hss]
  exact List.pairwise_map.2 (h.imp fun {a b} k e => k (ba_ext e))
 have hzn : zs.Nodup := hp.nodup_iff.2 hnd
 refine asc_ext ?_ (sortU_asc l) fun x => ?_
 ·unfold Asc
  rw [List.pairwise_map]
  refine (hs.and hzn).imp fun {a b} k => ?_
  have hle : a ≤ b := of_decide_eq_true k.1
  rcases cs_tri (toB a) (toB b) with c | c | c
  ·exact c
  ·exact absurd (by have := congrArg (fun s : ByteArray => s.data.toList) c; simpa [toB] using this) k.2
  ·exact absurd ((lt_cmp b a).2 (by simpa [cmpS, toB] using c)) (List.not_lt.2 hle)
 ·rw [List.mem_map, sortU_mem]
  constructor
  ·rintro ⟨y, hy, rfl⟩
   rw [hp.mem_iff, ← hss, List.mem_map] at hy
   obtain ⟨s, hs', rfl⟩ := hy
   rw [toB_list]; exact hs'
  ·intro hx
   exact ⟨x.data.toList, hp.mem_iff.2 (by rw [← hss]; exact List.mem_map_of_mem hx), toB_list x⟩
theorem sortRow_s (base n : Nat) (v : Value) (l : List ByteArray) (w : World) (hown : w.ownsRow base 9 1 v n (scells l)) (hl : l.length = n) (hn : n ≤ 1100000) (hnd : l.Nodup) :
  Calls Tryz.prog 78 #[v] w fun e w' => e = .returned (.tuple #[]) ∧ w'.ownsRow base 9 1 v n (scells (sortU l)) ∧ w.grownBy w' v.ownBlock := by
 rcases hown.2 with ⟨rfl, h0⟩ | ⟨g, cap, cur, rfl, hg, hb, hc, hm, hcs, ht⟩
 ·subst h0
  obtain rfl : l = [] := List.length_eq_zero_iff.1 hl
  refine (AnyM.slices_Sort_string_none Tryz.sort none 0 _).mono ?_
  rintro e w1 ⟨rfl, rfl⟩
  exact ⟨rfl, World.ownsRow_nil _ _ _ _, ⟨rfl, rfl, rfl, Nat.le_refl _, fun _ _ _ => rfl⟩⟩
 ·subst hl
  have HE := nodup_sorted hnd
  obtain ⟨ss, hss⟩ : ∃ ss, (l.map fun s => s.data.toList) = ss := ⟨_, rfl⟩
  have hsl : ss.length = l.length := by rw [← hss, List.length_map]
  have hgl : g < w.heap.size := by
   rcases Nat.lt_or_ge g w.heap.size with h' | h'
   ·exact h'
   ·simp [Array.getElem?_eq_none h'] at hb
  have hH : Holds encStr w g 0 ss.toArray := holds_of_block hb (by rw [hsl, ← hss, ← cells_enc]; simpa using ht)
  rw [hss] at HE
  obtain ⟨ts, hts⟩ : ∃ ts, (ss.mergeSort fun x y => decide (x ≤ y)) = ts := ⟨_, rfl⟩
  have htl : ts.length = ss.length := by rw [← hts]; exact sort_len ss
  have hS := AnyM.slices_Sort_string Tryz.sort g 0 cap ss w hH hgl (by omega)
  rw [hsl, hts] at hS
  rw [hts] at HE
  refine hS.mono ?_
  rintro e w' ⟨rfl, m, os, rfl⟩
  have ho1 := ownsRow_sorted (w := w) (n := m) (os := os) (ss := ss) (ts := ts) htl hg hb (by omega) hm (by omega)
  refine ⟨rfl, ?_, grownBy_sorted (w := w) (g := g) (n := m) (os := os) ts.toArray⟩
  rw [hsl] at ho1
  rw [← HE, ← enc_cells]
  exact ho1
end Go.Proofs.YtmmdaegdkikkpaaGreatDoor
end

section
set_option maxRecDepth 100000
namespace Go.Proofs.YtmmdaegdkikkpaaGreatDoor
open Go.RowKit Go.PlainAid
def enC (en : ByteArray) (l : List At) : Int := if en = ⟨#[]⟩ ∨ Nam.normB en = false then 5 else chkA l
theorem emp_eq {s : ByteArray} (h : s ≠ ⟨#[]⟩) : (s.toList == ([] : List UInt8)) = false := by
 rw [Lib.toList_data]
 rcases s with ⟨⟨l⟩⟩
 cases l with
 | nil => exact absurd rfl h
 | cons => rfl
set_option maxHeartbeats 4000000 in
theorem enCheck_s (en : ByteArray) (ao : Option Addr) (n cap : Nat) (l : List At) (w : World) (hn : en.size ≤ 1100000) (h : AttrsAt w ao n cap l) (hS : SmallA l) (hF : FewV l) :
  Calls Tryz.prog 22 #[.agg #[.string en, .slice ao n cap]] w fun e w' => e = .returned (.int .i64 (enC en l)) ∧ Below w.heap.size w w' := by
 have hb0 := below_al w (.cells #[.string en, .slice ao n cap] 37)
 have HK := Lib.hid (kbl_new w (.cells #[.string en, .slice ao n cap] 37))
 have HV := Lib.hid (Nam.valid_s en (w.alloc (.cells #[.string en, .slice ao n cap] 37)) hn)
 have HC := Lib.hid (fun (V : World) (hb : Below w.heap.size w V) => check_s ao n cap l V (h.below hb) hS hF)
 have HB0 := Lib.hid hb0
 have HE := Lib.hid (show enC en l = if en = ⟨#[]⟩ ∨ Nam.normB en = false then 5 else chkA l from rfl)
 clear hb0
 go_enter Tryz.func22, Tryz.ntmps22
 by_cases h0 : en = ⟨#[]⟩
 ·have HR := Lib.hid (HE.out.trans (if_pos (.inl h0)))
  subst h0
  go_wp2_with fail
  go_ret
  exact ⟨by rw [HR.out]; rfl, HB0.out⟩
 ·have e0 := emp_eq h0
  have e1 := emp_false h0
  obtain ⟨nb, hnb⟩ : ∃ b, Nam.normB en = b := ⟨_, rfl⟩
  rw [hnb] at HV HE
  have HE2 := Lib.hid (show enC en l = if nb = false then 5 else chkA l by rw [HE.out]; simp [h0])
  clear HE hnb h0
  go_wp2_with fail
  refine HV.out.mono ?_
  rintro e w1 ⟨rfl, hb⟩
  have HB1 := Lib.hid (HB0.out.trans (hb.mono (by simp)))
  have HK1 := Lib.hid (HK.out.step hb)
  clear hb
  cases nb
  ·go_wp2_with fail
   go_ret
   exact ⟨by rw [HE2.out]; rfl, HB1.out⟩
  ·obtain ⟨k0, k1⟩ : w1.cell? ⟨w.heap.size, 0, none⟩ = some (.string en) ∧ w1.cell? ⟨w.heap.size, 1, none⟩ = some (.slice ao n cap) := ⟨HK1.out.cell rfl, HK1.out.cell rfl⟩
   go_wp2_with fail
   refine (HC.out _ HB1.out).mono ?_
   rintro e w2 ⟨rfl, hb⟩
   go_wp2_with fail
   go_ret
   exact ⟨by rw [HE2.out]; rfl, HB1.out.trans (hb.mono HB1.out.size)⟩
set_option maxHeartbeats 4000000 in
theorem rEnCheck_s (en : ByteArray) (ao : Option Addr) (n cap : Nat) (l : List At) (w : World) (hn : en.size ≤ 1100000) (h : AttrsAt w ao n cap l) (hS : SmallA l) :
  Calls Tryz.prog 23 #[.agg #[.string en, .slice ao n cap]] w fun e w' => e = .returned (.int .i64 (enC en l)) ∧ Below w.heap.size w w' := by
 have hb0 := below_al w (.cells #[.string en, .slice ao n cap] 37)
 have HK := Lib.hid (kbl_new w (.cells #[.string en, .slice ao n cap] 37))
 have HV := Lib.hid (Nam.rvalid_s en (w.alloc (.cells #[.string en, .slice ao n cap] 37)) hn)
 have HC := Lib.hid (fun (V : World) (hb : Below w.heap.size w V) => rcheck_s ao n cap l V (h.below hb) hS)
 have HB0 := Lib.hid hb0
 have HE := Lib.hid (show enC en l = if en = ⟨#[]⟩ ∨ Nam.normB en = false then 5 else chkA l from rfl)
 clear hb0
 go_enter Tryz.func23, Tryz.ntmps23
 by_cases h0 : en = ⟨#[]⟩
 ·have HR := Lib.hid (HE.out.trans (if_pos (.inl h0)))
  subst h0
  go_wp2_with fail
  go_ret
  exact ⟨by rw [HR.out]; rfl, HB0.out⟩
 ·have e0 := emp_eq h0
  have e1 := emp_false h0
  obtain ⟨nb, hnb⟩ : ∃ b, Nam.normB en = b := ⟨_, rfl⟩
  rw [hnb] at HV HE
  have HE2 := Lib.hid (show enC en l = if nb = false then 5 else chkA l by rw [HE.out]; simp [h0])
  clear HE hnb h0
  go_wp2_with fail
  refine HV.out.mono ?_
  rintro e w1 ⟨rfl, hb⟩
  have HB1 := Lib.hid (HB0.out.trans (hb.mono (by simp)))
  have HK1 := Lib.hid (HK.out.step hb)
  clear hb
  cases nb
  ·go_wp2_with fail
   go_ret
   exact ⟨by rw [HE2.out]; rfl, HB1.out⟩
  ·obtain ⟨k0, k1⟩ : w1.cell? ⟨w.heap.size, 0, none⟩ = some (.string en) ∧ w1.cell? ⟨w.heap.size, 1, none⟩ = some (.slice ao n cap) := ⟨HK1.out.cell rfl, HK1.out.cell rfl⟩
   go_wp2_with fail
   refine (HC.out _ HB1.out).mono ?_
   rintro e w2 ⟨rfl, hb⟩
   go_wp2_with fail
   go_ret
   exact ⟨by rw [HE2.out]; rfl, HB1.out.trans (hb.mono HB1.out.size)⟩
structure Num (s u : List UInt8) (mn : Bool) (t : List UInt8) : Prop where
 parts : s = if mn then 45 :: t else t
 plain : mn = false → t.head? ≠ some 45
 zeros : ∃ z, t = List.replicate z 48 ++ u ∧ (0 < z → u ≠ [])
theorem Num.step {s t : List UInt8} {u : List UInt8} {mn : Bool} (h : Num s (48 :: u) mn t) (hu : u ≠ []) : Num s u mn t :=
 ⟨h.parts, h.plain, by
  obtain ⟨z, e, _⟩ := h.zeros
  refine ⟨z + 1, ?_, fun _ => hu⟩
  rw [e, List.replicate_succ', List.append_assoc]; rfl⟩
structure KT (w W : World) (ao : Option Addr) (n cap : Nat) (bo : Option Addr) (m dap : Nat) (tb : Nat) (p : ByteArray) (x : Int) (sg : Bool) : Prop where
 fb : FB w W ao n cap bo m dap
 ty : W.heap[tb]? = some (.cells #[.string p, .int .i64 x, .bool sg] 62)
 big : tb < W.heap.size
theorem KT.step {w W V : World} {ao : Option Addr} {n cap : Nat} {bo : Option Addr} {m dap tb : Nat} {p : ByteArray} {x : Int} {sg : Bool} (h : KT w W ao n cap bo m dap tb p x sg) (hb : Below W.heap.size W V) : KT w V ao n cap bo m dap tb p x sg :=
 ⟨h.fb.step hb, (hb.block _ h.big).trans h.ty, Nat.lt_of_lt_of_le h.big hb.size⟩
theorem KT.cells {w W : World} {ao : Option Addr} {n cap : Nat} {bo : Option Addr} {m dap tb : Nat} {p : ByteArray} {x : Int} {sg : Bool} (h : KT w W ao n cap bo m dap tb p x sg) :
  W.cell? ⟨w.heap.size, 0, none⟩ = some (.slice ao n cap) ∧ W.cell? ⟨w.heap.size, 1, none⟩ = some (.slice bo m dap) ∧ W.cell? ⟨tb, 0, none⟩ = some (.string p) ∧ W.cell? ⟨tb, 1, none⟩ = some (.int .i64 x) :=
 ⟨h.fb.cells.1, h.fb.cells.2, heap_cell h.ty rfl, heap_cell h.ty rfl⟩
def IntsAt (w : World) (ao : Option Addr) (n cap : Nat) (ks : List Nat) : Prop :=
 ks.length = n ∧ n ≤ cap ∧ cap ≤ maxLen ∧ (0 < n → ∃ b off, ao = some ⟨b, off, none⟩ ∧ b < w.heap.size ∧ ∀ j, j < n → w.cell? ⟨b, off + j, none⟩ = some (.int .i64 ((ks.getD j 0 : Nat) : Int)))
theorem IntsAt.below {w w' : World} {ao : Option Addr} {n cap : Nat} {ks : List Nat} (h : IntsAt w ao n cap ks) (hb : Below w.heap.size w w') : IntsAt w' ao n cap ks :=
 ⟨h.1, h.2.1, h.2.2.1, fun hn => by
  obtain ⟨b, off, e, hi, hs⟩ := h.2.2.2 hn
  exact ⟨b, off, e, Nat.lt_of_lt_of_le hi hb.size, fun j hj => cell_later hb (hs j hj)⟩⟩
theorem FB.grown {w W V : World} {ao : Option Addr} {n cap : Nat} {bo : Option Addr} {m dap : Nat} {r : Option Nat} (h : FB w W ao n cap bo m dap) (hg : W.grownBy V r) (hr : ∀ g, r = some g → w.heap.size + 1 ≤ g) : FB w V ao n cap bo m dap := by
 have hg' := hg
 obtain ⟨o2, t2, u2, s2, b2⟩ := hg
 exact ⟨(b2 _ h.big (fun e => by have := hr _ e.symm; omega)).trans h.box, h.low.grown hg' h.low.size (fun k hk => by have := hr k hk; omega), Nat.lt_of_lt_of_le h.big s2⟩
theorem LightE.fewE {l : List At} (h : LightE l) : FewE l :=
 ⟨h.few, fun a ha => by have := (h.each a ha).len; omega, ⟨by have h1 := vals_len l (lowS classN); have h2 := h.few.vals; omega, vals_small h.small _⟩, by have h1 := names_len l; have h2 := h.len; omega⟩
structure VB (w W : World) (to : Option Addr) (tn tc : Nat) (co : Option Addr) (cn cc : Nat) (en : ByteArray) (ao : Option Addr) (n cap : Nat) : Prop where
 s : Kb W w.heap.size (.cells #[.slice to tn tc, .slice co cn cc] 25)
 e : Kb W (w.heap.size + 1) (.cells #[.string en, .slice ao n cap] 37)
 low : Below w.heap.size w W
theorem VB.step {w W V : World} {to : Option Addr} {tn tc : Nat} {co : Option Addr} {cn cc : Nat} {en : ByteArray} {ao : Option Addr} {n cap : Nat} (h : VB w W to tn tc co cn cc en ao n cap) (hb : Below W.heap.size W V) : VB w V to tn tc co cn cc en ao n cap :=
 ⟨h.s.step hb, h.e.step hb, h.low.trans (hb.mono h.low.size)⟩
theorem VB.cells {w W : World} {to : Option Addr} {tn tc : Nat} {co : Option Addr} {cn cc : Nat} {en : ByteArray} {ao : Option Addr} {n cap : Nat} (h : VB w W to tn tc co cn cc en ao n cap) :
  W.cell? ⟨w.heap.size, 0, none⟩ = some (.slice to tn tc) ∧ W.cell? ⟨w.heap.size, 1, none⟩ = some (.slice co cn cc) ∧ W.cell? ⟨w.heap.size + 1, 1, none⟩ = some (.slice ao n cap) := ⟨h.s.cell rfl, h.s.cell rfl, h.e.cell rfl⟩
def enE (T : List Ty) (cs : List Cl) (en : ByteArray) (l : List At) : Int := if Nam.cleanE en ≠ 0 ∨ Nam.cleanV en = ⟨#[]⟩ then 5 else if chkA l ≠ 0 then chkA l else if nmE T (nf l) ≠ 0 then nmE T (nf l) else vldE T cs (nmL T (nf l))
def enN (T : List Ty) (cs : List Cl) (en : ByteArray) (l : List At) : ByteArray := if enE T cs en l = 0 then Nam.cleanV en else ⟨#[]⟩
def enL (T : List Ty) (cs : List Cl) (en : ByteArray) (l : List At) : List At := if enE T cs en l = 0 then nmL T (nf l) else []
def EnV (w : World) (v : Value) (en : ByteArray) (l : List At) : Prop := ∃ ao n cap, v = .agg #[.string en, .slice ao n cap] ∧ AttrsAt w ao n cap l
theorem EnV.below {w w' : World} {v : Value} {en : ByteArray} {l : List At} (h : EnV w v en l) (hb : Below w.heap.size w w') : EnV w' v en l := by
 obtain ⟨ao, n, cap, e, k⟩ := h
 exact ⟨ao, n, cap, e, k.below hb⟩
theorem env_nil (w : World) : EnV w (.agg #[.string ⟨#[]⟩, .slice none 0 0]) ⟨#[]⟩ [] := ⟨none, 0, 0, rfl, rfl, Nat.le_refl _, by unfold maxLen; omega, fun h => absurd h (Nat.lt_irrefl _)⟩
def EnP (T : List Ty) (cs : List Cl) (en : ByteArray) (l : List At) (w : World) (e : Ending) (w' : World) : Prop :=
 ∃ v, e = .returned (.tuple #[v, .int .i64 (enE T cs en l)]) ∧ EnV w' v (enN T cs en l) (enL T cs en l) ∧ Below w.heap.size w w'
theorem EnP.no {T : List Ty} {cs : List Cl} {en : ByteArray} {l : List At} {w w' : World} {c : Int} (h : enE T cs en l = c) (h0 : c ≠ 0) (hb : Below w.heap.size w w') : EnP T cs en l w (.returned (.tuple #[.agg #[.string ⟨#[]⟩, .slice none 0 0], .int .i64 c])) w' := by
 subst h
 refine ⟨_, rfl, ?_, hb⟩
 unfold enN enL
 rw [if_neg h0, if_neg h0]
 exact env_nil _
theorem enE_name {T : List Ty} {cs : List Cl} {en : ByteArray} {l : List At} (h : Nam.cleanE en ≠ 0 ∨ Nam.cleanV en = ⟨#[]⟩) : enE T cs en l = 5 := if_pos h
theorem enE_chk {T : List Ty} {cs : List Cl} {en : ByteArray} {l : List At} {c : Int} (h : ¬ (Nam.cleanE en ≠ 0 ∨ Nam.cleanV en = ⟨#[]⟩)) (hc : chkA l = c) (h0 : c ≠ 0) : enE T cs en l = c := by
 subst hc
 unfold enE; rw [if_neg h, if_pos h0]
theorem enE_nm {T : List Ty} {cs : List Cl} {en : ByteArray} {l : List At} {c : Int} (h : ¬ (Nam.cleanE en ≠ 0 ∨ Nam.cleanV en = ⟨#[]⟩)) (hc : chkA l = 0) (hn : nmE T (nf l) = c) (h0 : c ≠ 0) : enE T cs en l = c := by
 subst hn
 unfold enE; rw [if_neg h, if_neg (by simp [hc]), if_pos h0]
theorem enE_vld {T : List Ty} {cs : List Cl} {en : ByteArray} {l : List At} {c : Int} (h : ¬ (Nam.cleanE en ≠ 0 ∨ Nam.cleanV en = ⟨#[]⟩)) (hc : chkA l = 0) (hn : nmE T (nf l) = 0) (hv : vldE T cs (nmL T (nf l)) = c) : enE T cs en l = c := by
 subst hv
 unfold enE; rw [if_neg h, if_neg (by simp [hc]), if_neg (by simp [hn])]
theorem EnP.yes {T : List Ty} {cs : List Cl} {en : ByteArray} {l : List At} {w w' : World} {cl : ByteArray} {L : List At} {ao : Option Addr} {n cap : Nat} (h : enE T cs en l = 0) (hc : Nam.cleanV en = cl) (hL : nmL T (nf l) = L) (ha : AttrsAt w' ao n cap L) (hb : Below w.heap.size w w') :
  EnP T cs en l w (.returned (.tuple #[.agg #[.string cl, .slice ao n cap], .int .i64 0])) w' := by
 subst hc hL
 refine ⟨_, by rw [h], ?_, hb⟩
 unfold enN enL
 rw [if_pos h, if_pos h]
 exact ⟨ao, n, cap, rfl, ha⟩
theorem chk_light {l : List At} (h : chkA l = 0) : LightE l := by
 have k := chk_ok h
 refine ⟨by have := k.len; omega, fun a ha => ?_⟩
 obtain ⟨h1, h2, h3⟩ := k.each a ha
 exact ⟨by have := name_sz h1; omega, by omega, fun v hv => by have := clean_sz (h3.clean v hv); omega⟩
theorem tats_at {T : List Tr} {j : Nat} (h : j < T.length) : atD (tats T) j = ((T.getD j default).1, (T.getD j default).2.2) := by
 rw [at_get _ _ (by rw [tats_len]; exact h)]
 unfold tats
 rw [List.getElem_map, List.getD_eq_getElem?_getD, List.getElem?_eq_getElem h]; rfl
structure NmI (T : List Ty) (L : List At) (w : World) (b9 base : Nat) (cl : ByteArray) (sch : Obj) (ao : Option Addr) (n cap i : Nat) (U : List Tr) (wr : World) : Prop where
 kS : Kb wr w.heap.size sch
 kR : Kb wr (w.heap.size + 2) (.cells #[.string ⟨#[]⟩, .slice none 0 0] 37)
 kN : Kb wr b9 (.cells #[.string cl, .slice ao n cap] 37)
 len : U.length = n
 row : wr.ownsRow base 58 2 (.slice ao n cap) n (tcells U)
 own : TOwn wr base (.slice ao n cap) U
 done : tats U = nmL T (L.take i) ++ L.drop i
 zero : ∀ q, q < i → nvE T (atD L q).1 (atD L q).2 = 0
 low : Below w.heap.size w wr
 apart : ∀ g, ao = some ⟨g, 0, none⟩ → g ≠ b9
 big : w.heap.size + 3 ≤ base ∧ w.heap.size + 3 ≤ b9 ∧ base ≤ b9
theorem NmI.below {T : List Ty} {L : List At} {w : World} {b9 base : Nat} {cl : ByteArray} {sch : Obj} {ao : Option Addr} {n cap i : Nat} {U : List Tr} {wr V : World} (h : NmI T L w b9 base cl sch ao n cap i U wr) (hb : Below wr.heap.size wr V) : NmI T L w b9 base cl sch ao n cap i U V :=
 ⟨h.kS.step hb, h.kR.step hb, h.kN.step hb, h.len, own_below h.row hb, h.own.below hb, h.done, h.zero, h.low.trans (hb.mono h.low.size), h.apart, h.big⟩
theorem nm_step {T : List Ty} {L : List At} {i : Nat} {U : List Tr} (hi : i < L.length) (hd : tats U = nmL T (L.take i) ++ L.drop i) (u : Value) :
  tats (U.set i ((atD L i).1, u, sortU (fmsL T (atD L i).1 (atD L i).2))) = nmL T (L.take (i + 1)) ++ L.drop (i + 1) := by
 have h1 : tats (U.set i ((atD L i).1, u, sortU (fmsL T (atD L i).1 (atD L i).2))) = (tats U).set i ((atD L i).1, sortU (fmsL T (atD L i).1 (atD L i).2)) := by
  unfold tats; rw [List.map_set]
 have h2 : (nmL T (L.take i)).length = i := by rw [nm_len, List.length_take]; omega
 rw [h1, hd, List.set_append_right _ _ (by omega), h2, Nat.sub_self, at_take L i hi]
 unfold nmL
 rw [List.map_append, List.append_assoc]
 congr 1
 rw [List.drop_eq_getElem_cons hi, List.set_cons_zero]; rfl
theorem tcells_set {U : List Tr} {i : Nat} (hi : i < U.length) (p : ByteArray) (hp : (U.getD i default).1 = p) (u : Value) (vs : List ByteArray) : (tcells U).set (i * 2 + 1) u = tcells (U.set i (p, u, vs)) := by
 induction U generalizing i with
 | nil => exact absurd hi (Nat.not_lt_zero _)
 | cons t U ih =>
  cases i with
  | zero =>
   have : t.1 = p := hp
   subst this
   rfl
  | succ i =>
   rw [show (i + 1) * 2 + 1 = (i * 2 + 1) + 1 + 1 by omega, tcells_cons, List.set_cons_succ, List.set_cons_succ, List.set_cons_succ, tcells_cons, ih (by simpa using hi) (by simpa using hp)]
theorem etc_at {U : List Tr} {i : Nat} (hi : i < U.length) : (tcells U)[i * 2]? = some (.string (U.getD i default).1) ∧ (tcells U)[i * 2 + 1]? = some (U.getD i default).2.1 := by
 induction U generalizing i with
 | nil => exact absurd hi (Nat.not_lt_zero _)
 | cons t U ih =>
  cases i with
  | zero => exact ⟨rfl, rfl⟩
  | succ i =>
   have := ih (i := i) (by simpa using hi)
   rw [show (i + 1) * 2 = i * 2 + 1 + 1 by omega, tcells_cons]
   exact this
theorem NmI.same {T : List Ty} {L : List At} {w : World} {b9 base : Nat} {cl : ByteArray} {sch : Obj} {ao : Option Addr} {n cap i : Nat} {U : List Tr} {wr : World} (h : NmI T L w b9 base cl sch ao n cap i U wr) (hL : L.length = n) (hi : i < n) : (U.getD i default).1 = (atD L i).1 ∧ (U.getD i default).2.2 = (atD L i).2 := by
 have hiU : i < U.length := by rw [h.len]; exact hi
 have h1 := tats_at hiU
 rw [h.done] at h1
 have h2 : (nmL T (L.take i)).length = i := by rw [nm_len, List.length_take]; omega
 have h3 : atD (nmL T (L.take i) ++ L.drop i) i = atD L i := by
  unfold atD
  rw [List.getD_eq_getElem?_getD, List.getElem?_append_right (by omega), h2, Nat.sub_self, List.getElem?_drop, Nat.add_zero, ← List.getD_eq_getElem?_getD]
 rw [h3] at h1
 rw [h1]
 exact ⟨rfl, rfl⟩
theorem NmI.cell {T : List Ty} {L : List At} {w : World} {b9 base g : Nat} {cl : ByteArray} {sch : Obj} {n cap i : Nat} {U : List Tr} {wr : World} (h : NmI T L w b9 base cl sch (some ⟨g, 0, none⟩) n cap i U wr) (hL : L.length = n) (hi : i < n) :
  ∃ vo vc, wr.cell? ⟨g, i * 2, none⟩ = some (.string (atD L i).1) ∧ wr.cell? ⟨g, i * 2 + 1, none⟩ = some (.slice vo (atD L i).2.length vc) ∧ StrsAt wr vo (atD L i).2.length vc (atD L i).2 := by
 have hiU : i < U.length := by rw [h.len]; exact hi
 obtain ⟨s1, s2⟩ := h.same hL hi
 have hm : U.getD i default ∈ U := by
  rw [List.getD_eq_getElem?_getD, List.getElem?_eq_getElem hiU]; exact List.getElem_mem _
 obtain ⟨vo, vc, e, hst⟩ := strs_own (h.own _ hm).1 rfl
 obtain ⟨c1, c2⟩ := etc_at hiU
 have k1 := h.row.cells (g := g) rfl _ _ c1
 have k2 := h.row.cells (g := g) rfl _ _ c2
 rw [Go.WideShapes.add_plain, Nat.zero_add] at k1 k2
 rw [s1] at k1
 rw [e, s2] at k2
 rw [s2] at hst
 exact ⟨vo, vc, k1, k2, hst⟩
theorem TOwn.set {W : World} {base : Nat} {v : Value} {U : List Tr} (h : TOwn W base v U) {a : Addr} (ha : a.block < base) (u : Value) : TOwn (W.setCell a u) base v U := fun t ht => ⟨ownsRow_setCell_below (h t ht).1 ha u, (h t ht).2⟩
theorem own_atts {W : World} {base m sc : Nat} {so : Option Addr} {U : List Tr} (hr : W.ownsRow base 58 2 (.slice so m sc) m (tcells U)) (ho : TOwn W base (.slice so m sc) U) : AttrsAt W so m sc (tats U) := by
 obtain ⟨ao, n, cap, e, h⟩ := atts_own hr ho.ok
 simp only [Value.slice.injEq] at e
 obtain ⟨rfl, rfl, rfl⟩ := e
 exact h
theorem NmI.store {T : List Ty} {L : List At} {w : World} {b9 base g : Nat} {cl : ByteArray} {sch : Obj} {n cap i : Nat} {U : List Tr} {wr : World} (h : NmI T L w b9 base cl sch (some ⟨g, 0, none⟩) n cap i U wr) (hL : L.length = n) (hi : i < n) (u : Value)
  (hu : wr.ownsRow base 9 1 u (sortU (fmsL T (atD L i).1 (atD L i).2)).length (scells (sortU (fmsL T (atD L i).1 (atD L i).2)))) (hne : u.ownBlock = none ∨ u.ownBlock ≠ some g) (hz : nvE T (atD L i).1 (atD L i).2 = 0) :
  NmI T L w b9 base cl sch (some ⟨g, 0, none⟩) n cap (i + 1) (U.set i ((atD L i).1, u, sortU (fmsL T (atD L i).1 (atD L i).2))) (wr.setCell ⟨g, i * 2 + 1, none⟩ u) := by
 obtain ⟨s1, s2⟩ := h.row.stored (i * 2 + 1) u
 have hgb : base ≤ g := (h.row.lt g rfl).1
 have hiU : i < U.length := by rw [h.len]; exact hi
 have hp := (h.same hL hi).1
 have hk : ∀ {b : Nat} {o : Obj}, Kb wr b o → b ≠ g → Kb (wr.setCell ⟨g, i * 2 + 1, none⟩ u) b o := fun hb hn => hb.set _ _ hn
 have hba := h.big
 refine ⟨hk h.kS (by omega), hk h.kR (by omega), hk h.kN (fun e => h.apart g rfl e.symm), by rw [List.length_set]; exact h.len, ?_, ?_, nm_step (by omega) h.done u, fun q hq => ?_, h.low.setCell (p := ⟨g, i * 2 + 1, none⟩) (by show w.heap.size ≤ g; omega) u, h.apart, h.big⟩
 ·rw [← tcells_set hiU _ hp u]; exact s1
 ·intro t ht
  rcases List.mem_or_eq_of_mem_set ht with ht | rfl
  ·refine ⟨ownsRow_setCell_other (h.own t ht).1 ?_ u, (h.own t ht).2⟩
   rcases (h.own t ht).2 with k | k
   ·rw [k]; intro e; cases e
   ·exact k
  ·refine ⟨ownsRow_setCell_other hu ?_ u, hne⟩
   rcases hne with k | k
   ·rw [k]; intro e; cases e
   ·exact k
 ·by_cases e : q = i
  ·rw [e]; exact hz
  ·exact h.zero q (by omega)
end Go.Proofs.YtmmdaegdkikkpaaGreatDoor
end
