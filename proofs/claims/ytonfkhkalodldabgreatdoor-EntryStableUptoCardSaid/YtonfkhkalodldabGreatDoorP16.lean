/-
  Texts of the schema layer and of those beneath it, joined: EntMod, EntSet, EntVals, EntNvR, EntSrt, EntCk, SchVdR, EntNrm, EntMd. Conditions stand at each contract.
-/
import Derived.Laws.OwnMore
import Derived.OneCell
import Derived.Test.YtonfkhkalodldabGreatDoorP02
import Derived.Test.YtonfkhkalodldabGreatDoorP03
import Derived.Test.YtonfkhkalodldabGreatDoorP04
import Derived.Test.YtonfkhkalodldabGreatDoorP06
import Derived.Test.YtonfkhkalodldabGreatDoorP07
import Derived.Test.YtonfkhkalodldabGreatDoorP09
import Derived.Test.YtonfkhkalodldabGreatDoorP13
import Derived.Test.YtonfkhkalodldabGreatDoorP14
import Derived.Test.YtonfkhkalodldabGreatDoorP15
set_option linter.unusedVariables false
set_option linter.unusedSimpArgs false
set_option linter.unnecessarySimpa false

section
/-
  Pure facts of modifications: what one does to attributes, what a list of them does. No condition.
-/
set_option maxRecDepth 100000
set_option maxRecDepth 100000
namespace Go.Proofs.YtonfkhkalodldabGreatDoor
open Go.RowKit Go.PlainAid
/-- a modification: what it does (1 adds, 2 deletes, 3 replaces), the attribute's name, the values -/
structure Md where
  op : Int
  name : ByteArray
  vs : List ByteArray
instance : Inhabited Md := ⟨⟨0, ⟨#[]⟩, []⟩⟩
/-- attributes after a modification, or the error -/
def modR (T : List Ty) (l : List At) (m : Md) : List At × Int :=
  if ¬ (m.op = 1 ∨ m.op = 2 ∨ m.op = 3) then ([], 2) else if (tyOf T m.name).isSome = false then ([], 6) else if nvE T m.name m.vs ≠ 0 then ([], nvE T m.name m.vs)
  else if m.op = 1 then addR l m.name (fmsL T m.name m.vs) else if m.op = 2 then remR l m.name (fmsL T m.name m.vs) else repR l m.name (fmsL T m.name m.vs)
theorem mod_op {T : List Ty} {l : List At} {m : Md} (h : ¬ (m.op = 1 ∨ m.op = 2 ∨ m.op = 3)) : modR T l m = ([], 2) := if_pos h
theorem mod_type {T : List Ty} {l : List At} {m : Md} (h : m.op = 1 ∨ m.op = 2 ∨ m.op = 3) (ht : (tyOf T m.name).isSome = false) : modR T l m = ([], 6) := by
  unfold modR; rw [if_neg (fun k => k h), if_pos ht]
theorem mod_val {T : List Ty} {l : List At} {m : Md} (h : m.op = 1 ∨ m.op = 2 ∨ m.op = 3) (ht : (tyOf T m.name).isSome = true) {c : Int} (hc : nvE T m.name m.vs = c) (h0 : c ≠ 0) : modR T l m = ([], c) := by
  subst hc
  unfold modR; rw [if_neg (fun k => k h), if_neg (by rw [ht]; decide), if_pos h0]
theorem mod_add {T : List Ty} {l : List At} {m : Md} (h : m.op = 1) (ht : (tyOf T m.name).isSome = true) (hc : nvE T m.name m.vs = 0) : modR T l m = addR l m.name (fmsL T m.name m.vs) := by
  unfold modR; rw [if_neg (by simp [h]), if_neg (by rw [ht]; decide), if_neg (by simp [hc]), if_pos h]
theorem mod_rem {T : List Ty} {l : List At} {m : Md} (h : m.op = 2) (ht : (tyOf T m.name).isSome = true) (hc : nvE T m.name m.vs = 0) : modR T l m = remR l m.name (fmsL T m.name m.vs) := by
  unfold modR; rw [if_neg (by simp [h]), if_neg (by rw [ht]; decide), if_neg (by simp [hc]), if_neg (by rw [h]; decide), if_pos h]
theorem mod_rep {T : List Ty} {l : List At} {m : Md} (h : m.op = 3) (ht : (tyOf T m.name).isSome = true) (hc : nvE T m.name m.vs = 0) : modR T l m = repR l m.name (fmsL T m.name m.vs) := by
  unfold modR; rw [if_neg (by simp [h]), if_neg (by rw [ht]; decide), if_neg (by simp [hc]), if_neg (by rw [h]; decide), if_neg (by rw [h]; decide)]
/-- a modification that passes keeps what Check asks -/
theorem mod_chk {T : List Ty} {l : List At} {m : Md} (h : chkA l = 0) (he : (modR T l m).2 = 0) : chkA (modR T l m).1 = 0 := by
  by_cases h1 : m.op = 1 ∨ m.op = 2 ∨ m.op = 3
  · cases ht : (tyOf T m.name).isSome
    · rw [mod_type h1 ht] at he; cases he
    · by_cases hc : nvE T m.name m.vs = 0
      · rcases h1 with h1 | h1 | h1
        · rw [mod_add h1 ht hc] at he ⊢; exact add_chk h he
        · rw [mod_rem h1 ht hc] at he ⊢; exact rem_chk h he
        · rw [mod_rep h1 ht hc] at he ⊢; exact rep_chk h he
      · rw [mod_val h1 ht rfl hc] at he; exact absurd he hc
  · rw [mod_op h1] at he; cases he
/-- the modifications, one after the other: the attributes, the first error -/
def modsR (T : List Ty) : List At → List Md → List At × Int
  | l, [] => (l, 0)
  | l, m :: ms => if (modR T l m).2 = 0 then modsR T (modR T l m).1 ms else ([], (modR T l m).2)
theorem mods_ok {T : List Ty} {l : List At} {m : Md} {ms : List Md} {k : List At} (h : modR T l m = (k, 0)) : modsR T l (m :: ms) = modsR T k ms := by
  show (if (modR T l m).2 = 0 then modsR T (modR T l m).1 ms else ([], (modR T l m).2)) = _
  rw [h]; rfl
theorem mods_no {T : List Ty} {l : List At} {m : Md} {ms : List Md} {c : Int} (h : (modR T l m).2 = c) (h0 : c ≠ 0) : modsR T l (m :: ms) = ([], c) := by
  show (if (modR T l m).2 = 0 then modsR T (modR T l m).1 ms else ([], (modR T l m).2)) = _
  rw [h, if_neg h0]
end Go.Proofs.YtonfkhkalodldabGreatDoor
end

section
/-
  A set of strings as a map of the call's own, with the number of its keys. No condition.
-/
set_option maxRecDepth 100000
set_option maxRecDepth 100000
namespace Go.Proofs.YtonfkhkalodldabGreatDoor
open Go.RowKit Go.PlainAid Go.Maps Go.ChangeMaps
theorem insS_in {a : List ByteArray} (h : Asc a) {x : ByteArray} (hx : x ∈ a) : insS a x = a := asc_ext (insS_asc h) h fun y => by
  rw [insS_mem]
  exact ⟨fun k => k.elim id fun e => e ▸ hx, .inl⟩
theorem fold_full : ∀ (l a : List ByteArray), Asc a → (l.foldl insS a).length = a.length + l.length → l.Nodup
  | [], _, _, _ => List.Pairwise.nil
  | x :: l, a, h, e => by
    have key : ∀ (l a : List ByteArray), Asc a → (l.foldl insS a).length = a.length + l.length → ∀ y ∈ l, y ∉ a := by
      intro l
      induction l with
      | nil => intro _ _ _ y hy; cases hy
      | cons x l ih =>
        intro a h e y hy hya
        have h1 := foldl_len l (insS a x)
        have h2 := insS_len a x
        rw [List.foldl_cons, List.length_cons] at e
        rcases List.mem_cons.1 hy with rfl | hy
        · rw [insS_in h hya] at e h1
          omega
        · exact ih (insS a x) (insS_asc h) (by omega) y hy (insS_mem.2 (.inl hya))
    have h1 := foldl_len l (insS a x)
    have h2 := insS_len a x
    rw [List.foldl_cons, List.length_cons] at e
    have e2 : (l.foldl insS (insS a x)).length = (insS a x).length + l.length := by omega
    exact List.nodup_cons.2 ⟨fun hx => key l _ (insS_asc h) e2 x hx (insS_mem.2 (.inr rfl)), fold_full l _ (insS_asc h) e2⟩
theorem sortU_full {l : List ByteArray} (h : (sortU l).length = l.length) : l.Nodup := fold_full l [] List.Pairwise.nil (by simpa [sortU] using h)
theorem sortU_less {l : List ByteArray} (h : ¬ l.Nodup) : (sortU l).length < l.length := by
  have h1 := sortU_len l
  rcases Nat.lt_or_ge (sortU l).length l.length with k | k
  · exact k
  · exact absurd (sortU_full (Nat.le_antisymm h1 k)) h
theorem sortU_add (ks : List ByteArray) (k : ByteArray) : (sortU (ks ++ [k])).length = if memB ks k = true then (sortU ks).length else (sortU ks).length + 1 := by
  rw [sortU_snoc]
  by_cases h : memB ks k = true
  · rw [if_pos h, insS_in (sortU_asc ks) (sortU_mem.2 (memB_iff.1 h))]
  · rw [if_neg h, insS_len_new (sortU_asc ks) fun hx => h (memB_iff.2 (sortU_mem.1 hx))]
/-- a set of strings and the number of its keys -/
structure SetZ (w : World) (b n : Nat) (D : DataW Unit) (ks : List ByteArray) : Prop where
  map : w.ownsMap Tryz.prog 9 (plainElem Tryz.prog 4) b n D
  has : ∀ k, Maps.has D (klit k) = memB ks k
  siz : Maps.size D = (sortU ks).length
theorem setZ_made (w : World) : SetZ (w.alloc (.map #[] 0)) w.heap.size 0 (.map []) [] where
  map := World.ownsMap_made w _ _ _
  has k := rfl
  siz := rfl
theorem SetZ.lt {w : World} {b n : Nat} {D : DataW Unit} {ks : List ByteArray} (h : SetZ w b n D ks) : b < w.heap.size := h.map.lt
theorem SetZ.kept {w w' : World} {b n : Nat} {D : DataW Unit} {ks : List ByteArray} {row : Option Nat} (G : SetZ w b n D ks) (hg : w.grownBy w' row) (hne : some b ≠ row) : SetZ w' b n D ks := ⟨G.map.kept hg hne, G.has, G.siz⟩
theorem SetZ.below {w w' : World} {b n B : Nat} {D : DataW Unit} {ks : List ByteArray} (G : SetZ w b n D ks) (hb : Below B w w') (hB : b < B) : SetZ w' b n D ks := by
  obtain ⟨⟨es, clock, he, h1, h2⟩, h3, h4⟩ := G
  exact ⟨⟨es, clock, by rw [hb.block b hB]; exact he, h1, h2⟩, h3, h4⟩
theorem SetZ.store {w : World} {b n : Nat} {D : DataW Unit} {ks : List ByteArray} (G : SetZ w b n D ks) (k : ByteArray) (hk : k.size ≤ maxLen) (hn : n < maxLen) :
    ∃ w', (Instr.mapUpdate 77 (.map (some b)) (.string k) (.bool true)).run Tryz.prog w = .ok () w' ∧ SetZ w' b (n + 1) (D.put (klit k) (.lit (.bool true))) (ks ++ [k]) ∧ w.grownBy w' (some b) := by
  obtain ⟨w', hrun, hm, hg⟩ := G.map.update (t := 77) (e := 4) (string_keyed Tryz.underlying9) Tryz.underlying77 hn (klit_key k hk) (plainElem_bool Tryz.underlying4 true)
  refine ⟨w', hrun, ⟨hm, fun j => ?_, ?_⟩, hg⟩
  · rw [memB_snoc]
    by_cases e : k = j
    · subst e
      rw [has_put_same G.map.isMap (by unfold klit; trivial)]; simp
    · rw [has_put_other (fun h => e (klit_one h).symm), G.has j]
      simp [e]
  · rw [size_put (G.map.tidy (string_keyed Tryz.underlying9)), G.has, G.siz, sortU_add]
end Go.Proofs.YtonfkhkalodldabGreatDoor
end

section
/-
  Contract of entry.normalValues. Condition: at most 1100000 values of at most 1100000 bytes; the package's words as the card says.
-/
set_option maxRecDepth 100000
set_option maxRecDepth 100000
namespace Go.Proofs.YtonfkhkalodldabGreatDoor
open Go.RowKit Go.PlainAid Go.Maps Go.ChangeMaps
/-- what the loop over the values keeps -/
structure NVI (T : List Ty) (n : ByteArray) (vs : List ByteArray) (w : World) (box : Obj) (k : Nat) (D : DataW Unit) (v : Value) (wr : World) : Prop where
  zero : ∀ q, q < k → nrmE T n (partAt vs q) = 0
  set : SetZ wr (w.heap.size + 1) k D (fmsL T n (vs.take k))
  row : wr.ownsRow (w.heap.size + 1 + 1) 9 1 v k (scells (fmsL T n (vs.take k)))
  box : Kb wr w.heap.size box
  low : Below w.heap.size w wr
theorem NVI.below {T : List Ty} {n : ByteArray} {vs : List ByteArray} {w : World} {box : Obj} {k : Nat} {D : DataW Unit} {v : Value} {wr V : World} (h : NVI T n vs w box k D v wr) (hb : Below wr.heap.size wr V) : NVI T n vs w box k D v V :=
  ⟨h.zero, h.set.below hb h.set.lt, own_below h.row hb, h.box.step hb, h.low.trans (hb.mono h.low.size)⟩
theorem nvE_fault {T : List Ty} {n : ByteArray} {vs : List ByteArray} {k : Nat} (hk : k < vs.length) (h : ∀ q, q < k → nrmE T n (partAt vs q) = 0) {e : Int} (he : nrmE T n (partAt vs k) = e) (h0 : e ≠ 0) : nvE T n vs = e ∧ nvL T n vs = [] := by
  have h1 : fmsE T n vs = e := by
    unfold fmsE
    rw [firstE_hit h (by rw [he]; exact h0) hk, he]
  have h2 : nvE T n vs = e := by unfold nvE; rw [h1, if_pos h0]
  exact ⟨h2, by unfold nvL; rw [if_neg (by rw [h2]; exact h0)]⟩
theorem nvE_end {T : List Ty} {n : ByteArray} {vs : List ByteArray} (h : ∀ q, q < vs.length → nrmE T n (partAt vs q) = 0) : fmsE T n vs = 0 := firstE_zero h
theorem nvE_twice {T : List Ty} {n : ByteArray} {vs : List ByteArray} (h : fmsE T n vs = 0) (hn : ¬ (fmsL T n vs).Nodup) : nvE T n vs = 7 ∧ nvL T n vs = [] := by
  have h2 : nvE T n vs = 7 := by unfold nvE; rw [if_neg (by simp [h]), if_neg hn]
  exact ⟨h2, by unfold nvL; rw [if_neg (by rw [h2]; decide)]⟩
theorem nvE_ok {T : List Ty} {n : ByteArray} {vs : List ByteArray} (h : fmsE T n vs = 0) (hn : (fmsL T n vs).Nodup) : nvE T n vs = 0 ∧ nvL T n vs = fmsL T n vs := by
  have h2 : nvE T n vs = 0 := by unfold nvE; rw [if_neg (by simp [h]), if_pos hn]
  exact ⟨h2, by unfold nvL; rw [if_pos h2]⟩
/-- what normalValues gives: forms in a row of the call's own, or the error -/
def NvP (T : List Ty) (n : ByteArray) (vs : List ByteArray) (w : World) (e : Ending) (w' : World) : Prop :=
  ∃ u, e = .returned (.tuple #[u, .int .i64 (nvE T n vs)]) ∧ w'.ownsRow w.heap.size 9 1 u (nvL T n vs).length (scells (nvL T n vs)) ∧ Below w.heap.size w w'
theorem NvP.no {T : List Ty} {n : ByteArray} {vs : List ByteArray} {w w' : World} {c : Int} (h : nvE T n vs = c ∧ nvL T n vs = []) (hb : Below w.heap.size w w') : NvP T n vs w (.returned (.tuple #[.slice none 0 0, .int .i64 c])) w' :=
  ⟨_, by rw [h.1], by rw [h.2]; exact World.ownsRow_nil _ _ _ _, hb⟩
theorem row_lower {w : World} {base B n size : Nat} {e : TypeId} {v : Value} {xs : List Value} (h : w.ownsRow B e size v n xs) (hB : base ≤ B) : w.ownsRow base e size v n xs := by
  refine ⟨h.1, ?_⟩
  rcases h.2 with k | ⟨g, cap, cur, e1, h2, h3⟩
  · exact .inl k
  · exact .inr ⟨g, cap, cur, e1, Nat.le_trans hB h2, h3⟩
set_option maxHeartbeats 8000000 in
theorem nvals_s (to : Option Addr) (tn tc : Nat) (co : Option Addr) (cn cc : Nat) (ts : List Ty) (cs : List Cl) (n : ByteArray) (ao : Option Addr) (m cap : Nat) (vs : List ByteArray) (w : World) (h : SchV w (.agg #[.slice to tn tc, .slice co cn cc]) ts cs) (hv : StrsAt w ao m cap vs) (hn : n.size ≤ 1000000000) (hz : SmallS vs) (hm : m ≤ 1100000) (ho : IntOk w) :
    Calls Tryz.prog 15 #[.agg #[.slice to tn tc, .slice co cn cc], .string n, .slice ao m cap] w fun e w' => NvP (soundT ts cs) n vs w e w' := by
  obtain ⟨h1, h2, h3, h4⟩ := hv
  subst h1
  unfold maxLen at h3
  have H4 := Lib.hid h4; clear h4
  have HZ := Lib.hid hz; clear hz
  have HS := Lib.hid h; clear h
  have HO := Lib.hid ho; clear ho
  obtain ⟨T, hT⟩ : ∃ T, soundT ts cs = T := ⟨_, rfl⟩
  have HN := Lib.hid (fun (V : World) (s : ByteArray) (hV : SchV V (.agg #[.slice to tn tc, .slice co cn cc]) ts cs) (hs : s.size ≤ 1100000) (hO : IntOk V) => normalF_s _ ts cs n s V hV hn hs hO)
  rw [hT] at HN ⊢
  clear hT
  have hbx := below_al w (.cells #[.slice to tn tc, .slice co cn cc] 25)
  have HI0 := Lib.hid (show NVI T n vs w (.cells #[.slice to tn tc, .slice co cn cc] 25) 0 (.map []) (.slice none 0 0) ((w.alloc (.cells #[.slice to tn tc, .slice co cn cc] 25)).alloc (.map #[] 0)) from
    ⟨(fun q hq => absurd hq (Nat.not_lt_zero _)), by simpa [fmsL] using setZ_made (w.alloc (.cells #[.slice to tn tc, .slice co cn cc] 25)), World.ownsRow_nil _ _ _ _, (kbl_new w _).step (below_al _ _), hbx.trans ((below_al _ _).mono hbx.size)⟩)
  clear hbx
  have hmm := @run_makeMap Tryz.prog
  go_enter Tryz.func15, Tryz.ntmps15
  go_wp2_with fail
  clear hmm
  go_loopw [9, 11, 12, 13, 17] (fun s9 _ _ _ s17 wr => ∃ (k : Nat) (D : DataW Unit), k ≤ vs.length ∧ s17 = .int .i64 k ∧ Hid (NVI T n vs w (.cells #[.slice to tn tc, .slice co cn cc] 25) k D s9 wr)) (fun _ _ _ _ s17 _ => vs.length - (intOf s17).toNat)
  case atStart => exact ⟨0, _, Nat.zero_le _, rfl, HI0⟩
  case round =>
    clear HI0
    obtain ⟨k, D, hk, rfl, HI⟩ := hrel
    by_cases hlt : k < vs.length
    · obtain ⟨b, off, rfl, hs⟩ := H4.out (by omega)
      have hcell := (hs.below HI.out.low hs.1).2 k hlt
      clear hs
      obtain ⟨p, hpe⟩ : ∃ p, partAt vs k = p := ⟨_, rfl⟩
      have hps : p.size ≤ 1100000 := by rw [← hpe]; exact HZ.out _ (part_mem vs k hlt)
      rw [hpe] at hcell
      have HPe := Lib.hid hpe
      have HT := Lib.hid (show fmsL T n (vs.take (k + 1)) = fmsL T n (vs.take k) ++ [nrmV T n p] by rw [← hpe]; exact fms_take T n vs k hlt)
      clear hpe
      have d1 : (k : Int) < (vs.length : Int) := by omega
      obtain ⟨q0, q1⟩ : wr.cell? ⟨w.heap.size, 0, none⟩ = some (.slice to tn tc) ∧ wr.cell? ⟨w.heap.size, 1, none⟩ = some (.slice co cn cc) := ⟨HI.out.box.cell rfl, HI.out.box.cell rfl⟩
      have HNk := Lib.hid (HN.out wr p (HS.out.below HI.out.low) hps (HO.out.below HI.out.low))
      obtain ⟨c, hc⟩ : ∃ c, nrmE T n p = c := ⟨_, rfl⟩
      obtain ⟨f, hf⟩ : ∃ f, nrmV T n p = f := ⟨_, rfl⟩
      rw [hc, hf] at HNk
      rw [hf] at HT
      have HC := Lib.hid (And.intro hc hf)
      clear hc hf
      by_cases h0 : c = 0
      · subst h0
        have hfz : f.size ≤ 256 := by rw [← HC.out.2]; exact nrm_sz HC.out.1
        go_wp2_with fail
        refine HNk.out.mono ?_
        rintro e w1 ⟨rfl, hb⟩
        have HI1 := Lib.hid (HI.out.below hb)
        obtain ⟨w2, hrun, hG, hgr⟩ := HI1.out.set.store f (by unfold maxLen; omega) (by unfold maxLen; omega)
        have hown2 := HI1.out.row.kept hgr (by
          cases hr : u9.ownBlock
          · exact .inl rfl
          · refine .inr fun e => ?_
            have := (HI1.out.row.lt _ hr).1
            rw [Option.some.inj (e)] at this
            omega)
        have HG := Lib.hid hG
        have HLow2 := Lib.hid (HI1.out.low.grown hgr HI1.out.low.size (fun j hj => by cases hj; exact Nat.le_succ _))
        have HBox2 := Lib.hid (show Kb w2 w.heap.size (.cells #[.slice to tn tc, .slice co cn cc] 25) from (hgr.block _ HI1.out.box.big (by simp)).trans HI1.out.box)
        have hbig : w.heap.size + 1 + 1 ≤ w2.heap.size := by have := HG.out.lt; omega
        clear hb hG hgr q0 q1
        go_wp2_with (at_builtin; go_must (refine push_str w2 hown2 (.tmp 33) (.tmp 35) f ?_ ?_ ?_ ?_ ?_ ?_ ?_; exact rfl; exact rfl; exact rfl; exact rfl; omega; exact hbig; intro v3 w3 hown3 hb3))
        go_roundw
        case rel =>
          refine ⟨k + 1, D.put (klit f) (.lit (.bool true)), by omega, by go_num, Lib.hid ⟨fun q hq => ?_, ?_, ?_, (hb3.block _ (by omega)).trans HBox2.out, HLow2.out.trans (hb3.mono (by omega))⟩⟩
          · by_cases e : q = k
            · rw [e, HPe.out]; exact HC.out.1
            · exact HI.out.zero q (by omega)
          · rw [HT.out]; exact HG.out.below hb3 (Nat.lt_succ_self _)
          · rw [HT.out]; simpa [scells] using hown3
        case measure => simp [intOf]; omega
      · have HE := Lib.hid (nvE_fault hlt HI.out.zero (by rw [HPe.out]; exact HC.out.1) h0)
        have d2 : (c != 0) = true := by simpa using h0
        clear h0
        go_wp2_with fail
        refine HNk.out.mono ?_
        rintro e w1 ⟨rfl, hb⟩
        have HB1 := Lib.hid (HI.out.below hb).low
        clear hb
        go_wp2_with fail
        go_ret2
        exact NvP.no HE.out HB1.out
    · obtain rfl : k = vs.length := by omega
      have hF0 := nvE_end HI.out.zero
      have hset := HI.out.set
      have hrow := HI.out.row
      rw [List.take_length] at hset hrow
      have HR := Lib.hid hrow
      have hmap := hset.map
      have HZz := Lib.hid hset.siz
      obtain ⟨so, sc, rfl, _⟩ := strs_own hrow (fms_len T n vs)
      have HFz := Lib.hid hF0
      have HFl := Lib.hid (fms_len T n vs)
      have HLw := Lib.hid HI.out.low
      clear hset hrow hF0
      obtain ⟨z, hz⟩ : ∃ z, Maps.size D = z := ⟨_, rfl⟩
      have hzl : z ≤ vs.length := by rw [← hz, HZz.out, ← HFl.out]; exact sortU_len _
      by_cases hnd : (fmsL T n vs).Nodup
      · have hze : z = vs.length := by rw [← hz, HZz.out, sortU_len_new hnd, HFl.out]
        have HE := Lib.hid (nvE_ok HFz.out hnd)
        have d2 : ¬ ((z : Int) < (vs.length : Int)) := by omega
        clear hnd hze
        go_wp2_with (at_len; refine wpList_len_own _ rfl _ 77 rfl 9 4 Tryz.underlying77 _ _ _ D rfl hmap ?_; rw [hz])
        go_ret2
        exact ⟨_, by rw [HE.out.1]; rfl, by rw [HE.out.2, HFl.out]; exact row_lower HR.out (by omega), HLw.out⟩
      · have hze : z < vs.length := by rw [← hz, HZz.out, ← HFl.out]; exact sortU_less hnd
        have HE := Lib.hid (nvE_twice HFz.out hnd)
        have d2 : (z : Int) < (vs.length : Int) := by omega
        clear hnd
        go_wp2_with (at_len; refine wpList_len_own _ rfl _ 77 rfl 9 4 Tryz.underlying77 _ _ _ D rfl hmap ?_; rw [hz])
        go_ret2
        exact NvP.no HE.out HLw.out
end Go.Proofs.YtonfkhkalodldabGreatDoor
end

section
/-
  Contract of the specification's normals. Condition: at most 1100000 values of at most 1100000 bytes.
-/
set_option maxRecDepth 100000
set_option maxRecDepth 100000
namespace Go.Proofs.YtonfkhkalodldabGreatDoor
open Go.RowKit Go.PlainAid
/-- what the first loop keeps -/
structure RNI (T : List Ty) (n : ByteArray) (vs : List ByteArray) (w : World) (box : Obj) (k : Nat) (v : Value) (wr : World) : Prop where
  zero : ∀ q, q < k → nrmE T n (partAt vs q) = 0
  row : wr.ownsRow (w.heap.size + 1) 9 1 v k (scells (fmsL T n (vs.take k)))
  box : Kb wr w.heap.size box
  low : Below w.heap.size w wr
theorem RNI.below {T : List Ty} {n : ByteArray} {vs : List ByteArray} {w : World} {box : Obj} {k : Nat} {v : Value} {wr V : World} (h : RNI T n vs w box k v wr) (hb : Below wr.heap.size wr V) : RNI T n vs w box k v V :=
  ⟨h.zero, own_below h.row hb, h.box.step hb, h.low.trans (hb.mono h.low.size)⟩
end Go.Proofs.YtonfkhkalodldabGreatDoor
end

section
/-
  slices.Sort at an own row of different strings. Condition: at most 1100000 strings.
-/
set_option maxRecDepth 100000
set_option maxRecDepth 100000
namespace Go.Proofs.YtonfkhkalodldabGreatDoor
open Go.RowKit Go.PlainAid Go.Sort Go.Lib
theorem nodup_sorted {l : List ByteArray} (h : l.Nodup) : ((l.map fun s => s.data.toList).mergeSort fun x y => decide (x ≤ y)).map toB = sortU l := by
  obtain ⟨ss, hss⟩ : ∃ ss, (l.map fun s => s.data.toList) = ss := ⟨_, rfl⟩
  rw [hss]
  have hs := List.pairwise_mergeSort (le := fun (x y : List UInt8) => decide (x ≤ y)) (fun a b c h1 h2 => decide_eq_true (List.le_trans (of_decide_eq_true h1) (of_decide_eq_true h2))) (fun a b => by
    rcases List.le_total a b with k | k
    · simp [k]
    · simp [k]) ss
  have hp := List.mergeSort_perm ss (fun x y => decide (x ≤ y))
  obtain ⟨zs, hz⟩ : ∃ zs, (ss.mergeSort fun x y => decide (x ≤ y)) = zs := ⟨_, rfl⟩
  rw [hz] at hs hp ⊢
  have hnd : ss.Nodup := by
    rw [← hss]
    exact List.pairwise_map.2 (h.imp fun {a b} k e => k (ba_ext e))
  have hzn : zs.Nodup := hp.nodup_iff.2 hnd
  refine asc_ext ?_ (sortU_asc l) fun x => ?_
  · unfold Asc
    rw [List.pairwise_map]
    refine (hs.and hzn).imp fun {a b} k => ?_
    have hle : a ≤ b := of_decide_eq_true k.1
    rcases cs_tri (toB a) (toB b) with c | c | c
    · exact c
    · exact absurd (by have := congrArg (fun s : ByteArray => s.data.toList) c; simpa [toB] using this) k.2
    · exact absurd ((lt_cmp b a).2 (by simpa [cmpS, toB] using c)) (List.not_lt.2 hle)
  · rw [List.mem_map, sortU_mem]
    constructor
    · rintro ⟨y, hy, rfl⟩
      rw [hp.mem_iff, ← hss, List.mem_map] at hy
      obtain ⟨s, hs', rfl⟩ := hy
      rw [toB_list]; exact hs'
    · intro hx
      exact ⟨x.data.toList, hp.mem_iff.2 (by rw [← hss]; exact List.mem_map_of_mem hx), toB_list x⟩
theorem sortRow_s (base n : Nat) (v : Value) (l : List ByteArray) (w : World) (hown : w.ownsRow base 9 1 v n (scells l)) (hl : l.length = n) (hn : n ≤ 1100000) (hnd : l.Nodup) :
    Calls Tryz.prog 16 #[v] w fun e w' => e = .returned (.tuple #[]) ∧ w'.ownsRow base 9 1 v n (scells (sortU l)) ∧ w.grownBy w' v.ownBlock := by
  rcases hown.2 with ⟨rfl, h0⟩ | ⟨g, cap, cur, rfl, hg, hb, hc, hm, hcs, ht⟩
  · subst h0
    obtain rfl : l = [] := List.length_eq_zero_iff.1 hl
    refine (AnyM.slices_Sort_string_none Tryz.sort none 0 _).mono ?_
    rintro e w1 ⟨rfl, rfl⟩
    exact ⟨rfl, World.ownsRow_nil _ _ _ _, ⟨rfl, rfl, rfl, Nat.le_refl _, fun _ _ _ => rfl⟩⟩
  · subst hl
    have HE := nodup_sorted hnd
    obtain ⟨ss, hss⟩ : ∃ ss, (l.map fun s => s.data.toList) = ss := ⟨_, rfl⟩
    have hsl : ss.length = l.length := by rw [← hss, List.length_map]
    have hgl : g < w.heap.size := by
      rcases Nat.lt_or_ge g w.heap.size with h' | h'
      · exact h'
      · simp [Array.getElem?_eq_none h'] at hb
    have hH : Holds encStr w g 0 ss.toArray := holds_of_block hb (by rw [hsl, ← hss, ← cells_enc]; simpa using ht)
    rw [hss] at HE
    obtain ⟨ts, hts⟩ : ∃ ts, (ss.mergeSort fun x y => decide (x ≤ y)) = ts := ⟨_, rfl⟩
    have htl : ts.length = ss.length := by rw [← hts]; exact sort_len ss
    have hS := AnyM.slices_Sort_string Tryz.sort g 0 cap ss w hH hgl (by omega)
    rw [hsl, hts] at hS
    rw [hts] at HE
    refine hS.mono ?_
    rintro e w' ⟨rfl, m, os, rfl⟩
    have ho1 := ownsRow_sorted (w := w) (n := m) (os := os) (ss := ss) (ts := ts) htl hg hb (by omega) hm (by omega)
    refine ⟨rfl, ?_, grownBy_sorted (w := w) (g := g) (n := m) (os := os) ts.toArray⟩
    rw [hsl] at ho1
    rw [← HE, ← enc_cells]
    exact ho1
end Go.Proofs.YtonfkhkalodldabGreatDoor
end

section
/-
  Contracts of Check of entries, of the program and of the specification. Condition: names of at most 1100000 bytes, attributes that are small.
-/
set_option maxRecDepth 100000
set_option maxRecDepth 100000
namespace Go.Proofs.YtonfkhkalodldabGreatDoor
open Go.RowKit Go.PlainAid
/-- the first error of an entry -/
def enC (en : ByteArray) (l : List At) : Int := if en = ⟨#[]⟩ ∨ Nam.normB en = false then 5 else chkA l
theorem emp_eq {s : ByteArray} (h : s ≠ ⟨#[]⟩) : (s.toList == ([] : List UInt8)) = false := by
  rw [Lib.toList_data]
  rcases s with ⟨⟨l⟩⟩
  cases l with
  | nil => exact absurd rfl h
  | cons => rfl
set_option maxHeartbeats 4000000 in
theorem enCheck_s (en : ByteArray) (ao : Option Addr) (n cap : Nat) (l : List At) (w : World) (hn : en.size ≤ 1100000) (h : AttrsAt w ao n cap l) (hS : SmallA l) (hF : FewV l) :
    Calls Tryz.prog 18 #[.agg #[.string en, .slice ao n cap]] w fun e w' => e = .returned (.int .i64 (enC en l)) ∧ Below w.heap.size w w' := by
  have hb0 := below_al w (.cells #[.string en, .slice ao n cap] 28)
  have HK := Lib.hid (kbl_new w (.cells #[.string en, .slice ao n cap] 28))
  have HV := Lib.hid (Nam.valid_s en (w.alloc (.cells #[.string en, .slice ao n cap] 28)) hn)
  have HC := Lib.hid (fun (V : World) (hb : Below w.heap.size w V) => check_s ao n cap l V (h.below hb) hS hF)
  have HB0 := Lib.hid hb0
  have HE := Lib.hid (show enC en l = if en = ⟨#[]⟩ ∨ Nam.normB en = false then 5 else chkA l from rfl)
  clear hb0
  go_enter Tryz.func18, Tryz.ntmps18
  by_cases h0 : en = ⟨#[]⟩
  · have HR := Lib.hid (HE.out.trans (if_pos (.inl h0)))
    subst h0
    go_wp2_with fail
    go_ret
    exact ⟨by rw [HR.out]; rfl, HB0.out⟩
  · have e0 := emp_eq h0
    have e1 := emp_false h0
    obtain ⟨nb, hnb⟩ : ∃ b, Nam.normB en = b := ⟨_, rfl⟩
    rw [hnb] at HV HE
    have HE2 := Lib.hid (show enC en l = if nb = false then 5 else chkA l by rw [HE.out]; simp [h0])
    clear HE hnb h0
    go_wp2_with fail
    refine HV.out.mono ?_
    rintro e w1 ⟨rfl, hb⟩
    have HB1 := Lib.hid (HB0.out.trans (hb.mono (by simp)))
    have HK1 := Lib.hid (HK.out.step hb)
    clear hb
    cases nb
    · go_wp2_with fail
      go_ret
      exact ⟨by rw [HE2.out]; rfl, HB1.out⟩
    · obtain ⟨k0, k1⟩ : w1.cell? ⟨w.heap.size, 0, none⟩ = some (.string en) ∧ w1.cell? ⟨w.heap.size, 1, none⟩ = some (.slice ao n cap) := ⟨HK1.out.cell rfl, HK1.out.cell rfl⟩
      go_wp2_with fail
      refine (HC.out _ HB1.out).mono ?_
      rintro e w2 ⟨rfl, hb⟩
      go_wp2_with fail
      go_ret
      exact ⟨by rw [HE2.out]; rfl, HB1.out.trans (hb.mono HB1.out.size)⟩
end Go.Proofs.YtonfkhkalodldabGreatDoor
end

section
/-
  Contract of the specification's Valid. Condition: an entry that light accepts.
-/
set_option maxRecDepth 100000
set_option maxRecDepth 100000
namespace Go.Proofs.YtonfkhkalodldabGreatDoor
open Go.RowKit Go.PlainAid
theorem LightE.fewE {l : List At} (h : LightE l) : FewE l :=
  ⟨h.few, fun a ha => by have := (h.each a ha).len; omega, ⟨by have h1 := vals_len l (lowS classN); have h2 := sumV_le (l := l) fun a ha => (h.each a ha).len; have h3 := h.len; omega, vals_small h.small _⟩, by have h1 := names_len l; have h2 := h.len; omega⟩
/-- the boxes of Valid: the schema, the entry -/
structure VB (w W : World) (to : Option Addr) (tn tc : Nat) (co : Option Addr) (cn cc : Nat) (en : ByteArray) (ao : Option Addr) (n cap : Nat) : Prop where
  s : Kb W w.heap.size (.cells #[.slice to tn tc, .slice co cn cc] 25)
  e : Kb W (w.heap.size + 1) (.cells #[.string en, .slice ao n cap] 28)
  low : Below w.heap.size w W
theorem VB.step {w W V : World} {to : Option Addr} {tn tc : Nat} {co : Option Addr} {cn cc : Nat} {en : ByteArray} {ao : Option Addr} {n cap : Nat} (h : VB w W to tn tc co cn cc en ao n cap) (hb : Below W.heap.size W V) : VB w V to tn tc co cn cc en ao n cap :=
  ⟨h.s.step hb, h.e.step hb, h.low.trans (hb.mono h.low.size)⟩
theorem VB.cells {w W : World} {to : Option Addr} {tn tc : Nat} {co : Option Addr} {cn cc : Nat} {en : ByteArray} {ao : Option Addr} {n cap : Nat} (h : VB w W to tn tc co cn cc en ao n cap) :
    W.cell? ⟨w.heap.size, 0, none⟩ = some (.slice to tn tc) ∧ W.cell? ⟨w.heap.size, 1, none⟩ = some (.slice co cn cc) ∧ W.cell? ⟨w.heap.size + 1, 1, none⟩ = some (.slice ao n cap) := ⟨h.s.cell rfl, h.s.cell rfl, h.e.cell rfl⟩
end Go.Proofs.YtonfkhkalodldabGreatDoor
end

section
/-
  Contract of entry.Normal. Condition: names of at most 1100000 bytes, few attributes with few values; the package's words as the card says.
-/
set_option maxRecDepth 100000
set_option maxRecDepth 100000
namespace Go.Proofs.YtonfkhkalodldabGreatDoor
open Go.RowKit Go.PlainAid
/-- the error of Normal, the normal form -/
def enE (T : List Ty) (cs : List Cl) (en : ByteArray) (l : List At) : Int := if Nam.cleanE en ≠ 0 ∨ Nam.cleanV en = ⟨#[]⟩ then 5 else if chkA l ≠ 0 then chkA l else if nmE T (nf l) ≠ 0 then nmE T (nf l) else vldE T cs (nmL T (nf l))
def enN (T : List Ty) (cs : List Cl) (en : ByteArray) (l : List At) : ByteArray := if enE T cs en l = 0 then Nam.cleanV en else ⟨#[]⟩
def enL (T : List Ty) (cs : List Cl) (en : ByteArray) (l : List At) : List At := if enE T cs en l = 0 then nmL T (nf l) else []
/-- an entry as a value -/
def EnV (w : World) (v : Value) (en : ByteArray) (l : List At) : Prop := ∃ ao n cap, v = .agg #[.string en, .slice ao n cap] ∧ AttrsAt w ao n cap l
theorem EnV.below {w w' : World} {v : Value} {en : ByteArray} {l : List At} (h : EnV w v en l) (hb : Below w.heap.size w w') : EnV w' v en l := by
  obtain ⟨ao, n, cap, e, k⟩ := h
  exact ⟨ao, n, cap, e, k.below hb⟩
theorem env_nil (w : World) : EnV w (.agg #[.string ⟨#[]⟩, .slice none 0 0]) ⟨#[]⟩ [] := ⟨none, 0, 0, rfl, rfl, Nat.le_refl _, by unfold maxLen; omega, fun h => absurd h (Nat.lt_irrefl _)⟩
def EnP (T : List Ty) (cs : List Cl) (en : ByteArray) (l : List At) (w : World) (e : Ending) (w' : World) : Prop :=
  ∃ v, e = .returned (.tuple #[v, .int .i64 (enE T cs en l)]) ∧ EnV w' v (enN T cs en l) (enL T cs en l) ∧ Below w.heap.size w w'
theorem EnP.no {T : List Ty} {cs : List Cl} {en : ByteArray} {l : List At} {w w' : World} {c : Int} (h : enE T cs en l = c) (h0 : c ≠ 0) (hb : Below w.heap.size w w') : EnP T cs en l w (.returned (.tuple #[.agg #[.string ⟨#[]⟩, .slice none 0 0], .int .i64 c])) w' := by
  subst h
  refine ⟨_, rfl, ?_, hb⟩
  unfold enN enL
  rw [if_neg h0, if_neg h0]
  exact env_nil _
theorem enE_name {T : List Ty} {cs : List Cl} {en : ByteArray} {l : List At} (h : Nam.cleanE en ≠ 0 ∨ Nam.cleanV en = ⟨#[]⟩) : enE T cs en l = 5 := if_pos h
theorem enE_chk {T : List Ty} {cs : List Cl} {en : ByteArray} {l : List At} {c : Int} (h : ¬ (Nam.cleanE en ≠ 0 ∨ Nam.cleanV en = ⟨#[]⟩)) (hc : chkA l = c) (h0 : c ≠ 0) : enE T cs en l = c := by
  subst hc
  unfold enE; rw [if_neg h, if_pos h0]
theorem enE_nm {T : List Ty} {cs : List Cl} {en : ByteArray} {l : List At} {c : Int} (h : ¬ (Nam.cleanE en ≠ 0 ∨ Nam.cleanV en = ⟨#[]⟩)) (hc : chkA l = 0) (hn : nmE T (nf l) = c) (h0 : c ≠ 0) : enE T cs en l = c := by
  subst hn
  unfold enE; rw [if_neg h, if_neg (by simp [hc]), if_pos h0]
theorem enE_vld {T : List Ty} {cs : List Cl} {en : ByteArray} {l : List At} {c : Int} (h : ¬ (Nam.cleanE en ≠ 0 ∨ Nam.cleanV en = ⟨#[]⟩)) (hc : chkA l = 0) (hn : nmE T (nf l) = 0) (hv : vldE T cs (nmL T (nf l)) = c) : enE T cs en l = c := by
  subst hv
  unfold enE; rw [if_neg h, if_neg (by simp [hc]), if_neg (by simp [hn])]
theorem EnP.yes {T : List Ty} {cs : List Cl} {en : ByteArray} {l : List At} {w w' : World} {cl : ByteArray} {L : List At} {ao : Option Addr} {n cap : Nat} (h : enE T cs en l = 0) (hc : Nam.cleanV en = cl) (hL : nmL T (nf l) = L) (ha : AttrsAt w' ao n cap L) (hb : Below w.heap.size w w') :
    EnP T cs en l w (.returned (.tuple #[.agg #[.string cl, .slice ao n cap], .int .i64 0])) w' := by
  subst hc hL
  refine ⟨_, by rw [h], ?_, hb⟩
  unfold enN enL
  rw [if_pos h, if_pos h]
  exact ⟨ao, n, cap, rfl, ha⟩
/-- what passes Check is light -/
theorem chk_light {l : List At} (h : chkA l = 0) : LightE l := by
  have k := chk_ok h
  refine ⟨by have := k.len; omega, fun a ha => ?_⟩
  obtain ⟨h1, h2, h3⟩ := k.each a ha
  exact ⟨by have := name_sz h1; omega, by omega, fun v hv => by have := clean_sz (h3.clean v hv); omega⟩
theorem tats_at {T : List Tr} {j : Nat} (h : j < T.length) : atD (tats T) j = ((T.getD j default).1, (T.getD j default).2.2) := by
  rw [at_get _ _ (by rw [tats_len]; exact h)]
  unfold tats
  rw [List.getElem_map, List.getD_eq_getElem?_getD, List.getElem?_eq_getElem h]; rfl
/-- what the loop over the attributes keeps -/
structure NmI (T : List Ty) (L : List At) (w : World) (b9 base : Nat) (cl : ByteArray) (sch : Obj) (ao : Option Addr) (n cap i : Nat) (U : List Tr) (wr : World) : Prop where
  kS : Kb wr w.heap.size sch
  kR : Kb wr (w.heap.size + 2) (.cells #[.string ⟨#[]⟩, .slice none 0 0] 28)
  kN : Kb wr b9 (.cells #[.string cl, .slice ao n cap] 28)
  len : U.length = n
  row : wr.ownsRow base 41 2 (.slice ao n cap) n (tcells U)
  own : TOwn wr base (.slice ao n cap) U
  done : tats U = nmL T (L.take i) ++ L.drop i
  zero : ∀ q, q < i → nvE T (atD L q).1 (atD L q).2 = 0
  low : Below w.heap.size w wr
  apart : ∀ g, ao = some ⟨g, 0, none⟩ → g ≠ b9
  big : w.heap.size + 3 ≤ base ∧ w.heap.size + 3 ≤ b9 ∧ base ≤ b9
theorem NmI.below {T : List Ty} {L : List At} {w : World} {b9 base : Nat} {cl : ByteArray} {sch : Obj} {ao : Option Addr} {n cap i : Nat} {U : List Tr} {wr V : World} (h : NmI T L w b9 base cl sch ao n cap i U wr) (hb : Below wr.heap.size wr V) : NmI T L w b9 base cl sch ao n cap i U V :=
  ⟨h.kS.step hb, h.kR.step hb, h.kN.step hb, h.len, own_below h.row hb, h.own.below hb, h.done, h.zero, h.low.trans (hb.mono h.low.size), h.apart, h.big⟩
theorem nm_step {T : List Ty} {L : List At} {i : Nat} {U : List Tr} (hi : i < L.length) (hd : tats U = nmL T (L.take i) ++ L.drop i) (u : Value) :
    tats (U.set i ((atD L i).1, u, sortU (fmsL T (atD L i).1 (atD L i).2))) = nmL T (L.take (i + 1)) ++ L.drop (i + 1) := by
  have h1 : tats (U.set i ((atD L i).1, u, sortU (fmsL T (atD L i).1 (atD L i).2))) = (tats U).set i ((atD L i).1, sortU (fmsL T (atD L i).1 (atD L i).2)) := by
    unfold tats; rw [List.map_set]
  have h2 : (nmL T (L.take i)).length = i := by rw [nm_len, List.length_take]; omega
  rw [h1, hd, List.set_append_right _ _ (by omega), h2, Nat.sub_self, at_take L i hi]
  unfold nmL
  rw [List.map_append, List.append_assoc]
  congr 1
  rw [List.drop_eq_getElem_cons hi, List.set_cons_zero]; rfl
theorem tcells_setN {U : List Tr} {i : Nat} (hi : i < U.length) (p : ByteArray) (hp : (U.getD i default).1 = p) (u : Value) (vs : List ByteArray) : (tcells U).set (i * 2 + 1) u = tcells (U.set i (p, u, vs)) := by
  induction U generalizing i with
  | nil => exact absurd hi (Nat.not_lt_zero _)
  | cons t U ih =>
    cases i with
    | zero =>
      have : t.1 = p := hp
      subst this
      rfl
    | succ i =>
      rw [show (i + 1) * 2 + 1 = (i * 2 + 1) + 1 + 1 by omega, tcells_cons, List.set_cons_succ, List.set_cons_succ, List.set_cons_succ, tcells_cons, ih (by simpa using hi) (by simpa using hp)]
theorem etc_at {U : List Tr} {i : Nat} (hi : i < U.length) : (tcells U)[i * 2]? = some (.string (U.getD i default).1) ∧ (tcells U)[i * 2 + 1]? = some (U.getD i default).2.1 := by
  induction U generalizing i with
  | nil => exact absurd hi (Nat.not_lt_zero _)
  | cons t U ih =>
    cases i with
    | zero => exact ⟨rfl, rfl⟩
    | succ i =>
      have := ih (i := i) (by simpa using hi)
      rw [show (i + 1) * 2 = i * 2 + 1 + 1 by omega, tcells_cons]
      exact this
theorem NmI.same {T : List Ty} {L : List At} {w : World} {b9 base : Nat} {cl : ByteArray} {sch : Obj} {ao : Option Addr} {n cap i : Nat} {U : List Tr} {wr : World} (h : NmI T L w b9 base cl sch ao n cap i U wr) (hL : L.length = n) (hi : i < n) : (U.getD i default).1 = (atD L i).1 ∧ (U.getD i default).2.2 = (atD L i).2 := by
  have hiU : i < U.length := by rw [h.len]; exact hi
  have h1 := tats_at hiU
  rw [h.done] at h1
  have h2 : (nmL T (L.take i)).length = i := by rw [nm_len, List.length_take]; omega
  have h3 : atD (nmL T (L.take i) ++ L.drop i) i = atD L i := by
    unfold atD
    rw [List.getD_eq_getElem?_getD, List.getElem?_append_right (by omega), h2, Nat.sub_self, List.getElem?_drop, Nat.add_zero, ← List.getD_eq_getElem?_getD]
  rw [h3] at h1
  rw [h1]
  exact ⟨rfl, rfl⟩
/-- the cells of the attribute that is read -/
theorem NmI.cell {T : List Ty} {L : List At} {w : World} {b9 base g : Nat} {cl : ByteArray} {sch : Obj} {n cap i : Nat} {U : List Tr} {wr : World} (h : NmI T L w b9 base cl sch (some ⟨g, 0, none⟩) n cap i U wr) (hL : L.length = n) (hi : i < n) :
    ∃ vo vc, wr.cell? ⟨g, i * 2, none⟩ = some (.string (atD L i).1) ∧ wr.cell? ⟨g, i * 2 + 1, none⟩ = some (.slice vo (atD L i).2.length vc) ∧ StrsAt wr vo (atD L i).2.length vc (atD L i).2 := by
  have hiU : i < U.length := by rw [h.len]; exact hi
  obtain ⟨s1, s2⟩ := h.same hL hi
  have hm : U.getD i default ∈ U := by
    rw [List.getD_eq_getElem?_getD, List.getElem?_eq_getElem hiU]; exact List.getElem_mem _
  obtain ⟨vo, vc, e, hst⟩ := strs_own (h.own _ hm).1 rfl
  obtain ⟨c1, c2⟩ := etc_at hiU
  have k1 := h.row.cells (g := g) rfl _ _ c1
  have k2 := h.row.cells (g := g) rfl _ _ c2
  rw [Go.WideShapes.add_plain, Nat.zero_add] at k1 k2
  rw [s1] at k1
  rw [e, s2] at k2
  rw [s2] at hst
  exact ⟨vo, vc, k1, k2, hst⟩
theorem TOwn.set {W : World} {base : Nat} {v : Value} {U : List Tr} (h : TOwn W base v U) {a : Addr} (ha : a.block < base) (u : Value) : TOwn (W.setCell a u) base v U := fun t ht => ⟨ownsRow_setCell_below (h t ht).1 ha u, (h t ht).2⟩
theorem own_atts {W : World} {base m sc : Nat} {so : Option Addr} {U : List Tr} (hr : W.ownsRow base 41 2 (.slice so m sc) m (tcells U)) (ho : TOwn W base (.slice so m sc) U) : AttrsAt W so m sc (tats U) := by
  obtain ⟨ao, n, cap, e, h⟩ := atts_own hr ho.ok
  simp only [Value.slice.injEq] at e
  obtain ⟨rfl, rfl, rfl⟩ := e
  exact h
/-- the loop's store -/
theorem NmI.store {T : List Ty} {L : List At} {w : World} {b9 base g : Nat} {cl : ByteArray} {sch : Obj} {n cap i : Nat} {U : List Tr} {wr : World} (h : NmI T L w b9 base cl sch (some ⟨g, 0, none⟩) n cap i U wr) (hL : L.length = n) (hi : i < n) (u : Value)
    (hu : wr.ownsRow base 9 1 u (sortU (fmsL T (atD L i).1 (atD L i).2)).length (scells (sortU (fmsL T (atD L i).1 (atD L i).2)))) (hne : u.ownBlock = none ∨ u.ownBlock ≠ some g) (hz : nvE T (atD L i).1 (atD L i).2 = 0) :
    NmI T L w b9 base cl sch (some ⟨g, 0, none⟩) n cap (i + 1) (U.set i ((atD L i).1, u, sortU (fmsL T (atD L i).1 (atD L i).2))) (wr.setCell ⟨g, i * 2 + 1, none⟩ u) := by
  obtain ⟨s1, s2⟩ := h.row.stored (i * 2 + 1) u
  have hgb : base ≤ g := (h.row.lt g rfl).1
  have hiU : i < U.length := by rw [h.len]; exact hi
  have hp := (h.same hL hi).1
  have hk : ∀ {b : Nat} {o : Obj}, Kb wr b o → b ≠ g → Kb (wr.setCell ⟨g, i * 2 + 1, none⟩ u) b o := fun hb hn => hb.set _ _ hn
  have hba := h.big
  refine ⟨hk h.kS (by omega), hk h.kR (by omega), hk h.kN (fun e => h.apart g rfl e.symm), by rw [List.length_set]; exact h.len, ?_, ?_, nm_step (by omega) h.done u, fun q hq => ?_, h.low.setCell (p := ⟨g, i * 2 + 1, none⟩) (by show w.heap.size ≤ g; omega) u, h.apart, h.big⟩
  · rw [← tcells_setN hiU _ hp u]; exact s1
  · intro t ht
    rcases List.mem_or_eq_of_mem_set ht with ht | rfl
    · refine ⟨ownsRow_setCell_other (h.own t ht).1 ?_ u, (h.own t ht).2⟩
      rcases (h.own t ht).2 with k | k
      · rw [k]; intro e; cases e
      · exact k
    · refine ⟨ownsRow_setCell_other hu ?_ u, hne⟩
      rcases hne with k | k
      · rw [k]; intro e; cases e
      · exact k
  · by_cases e : q = i
    · rw [e]; exact hz
    · exact h.zero q (by omega)
end Go.Proofs.YtonfkhkalodldabGreatDoor
end

section
/-
  Contracts of entry.modified and of the specification's apply. Condition: light attributes, at most 10000 values of at most 1100000 bytes; the package's words as the card says.
-/
set_option maxRecDepth 100000
set_option maxRecDepth 100000
namespace Go.Proofs.YtonfkhkalodldabGreatDoor
open Go.RowKit Go.PlainAid
theorem edit_light {l : List At} {vs : List ByteArray} (h : LightE l) (hv : ∀ v ∈ vs, v.size ≤ 256) (hl : vs.length ≤ 1050000) : Edit l vs :=
  ⟨h.small, by have := sumV_le (l := l) fun a ha => (h.each a ha).len; have := h.len; omega, by have := h.len; omega, fun v hv' => by have := hv v hv'; omega, hl⟩
/-- what a modification gives -/
def MdP (r : List At × Int) (w : World) (e : Ending) (w' : World) : Prop := ∃ v, e = .returned (.tuple #[v, .int .i64 r.2]) ∧ AttsR w' v r.1 ∧ Below w.heap.size w w'
theorem MdP.no {r : List At × Int} {w w' : World} {c : Int} (h : r = ([], c)) (hb : Below w.heap.size w w') : MdP r w (.returned (.tuple #[.slice none 0 0, .int .i64 c])) w' :=
  ⟨_, by rw [h], by rw [h]; exact atts_nil w', hb⟩
set_option maxHeartbeats 16000000 in
theorem modified_s (to : Option Addr) (tn tc : Nat) (co : Option Addr) (cn cc : Nat) (ts : List Ty) (cs : List Cl) (ao : Option Addr) (n cap : Nat) (l : List At) (op : Int) (nm : ByteArray) (vo : Option Addr) (vn vc : Nat) (vs : List ByteArray) (w : World) (h : SchV w (.agg #[.slice to tn tc, .slice co cn cc]) ts cs) (ha : AttrsAt w ao n cap l) (hv : StrsAt w vo vn vc vs) (hl : LightE l) (hz : SmallS vs) (hm : vn ≤ 1050000) (hn : nm.size ≤ 1100000) (ho : IntOk w) :
    Calls Tryz.prog 26 #[.agg #[.slice to tn tc, .slice co cn cc], .slice ao n cap, .agg #[.int .i64 op, .string nm, .slice vo vn vc]] w fun e w' => MdP (modR (soundT ts cs) l ⟨op, nm, vs⟩) w e w' := by
  have HS := Lib.hid h; clear h
  have HA := Lib.hid ha; clear ha
  have HV := Lib.hid hv; clear hv
  have HO := Lib.hid ho; clear ho
  have HVl := Lib.hid HV.out.1
  have b0 := below_al w (.cells #[.slice to tn tc, .slice co cn cc] 25)
  have b1 := below_al (w.alloc (.cells #[.slice to tn tc, .slice co cn cc] 25)) (.cells #[.int .i64 op, .string nm, .slice vo vn vc] 57)
  have hb := b0.trans (b1.mono b0.size)
  have hk0 := (kbl_new w (.cells #[.slice to tn tc, .slice co cn cc] 25)).step b1
  have hk1 : Kb ((w.alloc (.cells #[.slice to tn tc, .slice co cn cc] 25)).alloc (.cells #[.int .i64 op, .string nm, .slice vo vn vc] 57)) (w.heap.size + 1) (.cells #[.int .i64 op, .string nm, .slice vo vn vc] 57) := by
    have := kbl_new (w.alloc (.cells #[.slice to tn tc, .slice co cn cc] 25)) (.cells #[.int .i64 op, .string nm, .slice vo vn vc] 57)
    simpa using this
  have HB := Lib.hid hb
  have HK := Lib.hid (And.intro hk0 hk1)
  clear b0 b1 hb hk0 hk1
  have HTy := Lib.hid (fun (V : World) (hb : Below w.heap.size w V) => typeF_s _ ts cs nm V (HS.out.below hb) (by omega))
  have HNv := Lib.hid (fun (V : World) (hb : Below w.heap.size w V) => nvals_s to tn tc co cn cc ts cs nm vo vn vc vs V (HS.out.below hb) (HV.out.below hb) (by omega) hz (by omega) (HO.out.below hb))
  unfold NvP at HNv
  obtain ⟨T, hT⟩ : ∃ T, soundT ts cs = T := ⟨_, rfl⟩
  rw [hT] at HTy HNv ⊢
  clear hT
  obtain ⟨⟨tn', ty', ts'⟩, htt⟩ : ∃ t, (tyOf T nm).getD zeroTy = t := ⟨_, rfl⟩
  obtain ⟨tb, htb⟩ : ∃ b, (tyOf T nm).isSome = b := ⟨_, rfl⟩
  rw [htt, htb] at HTy
  unfold tyV at HTy
  have HTb := Lib.hid htb
  clear htt htb
  go_enter Tryz.func26, Tryz.ntmps26
  by_cases hop : op = 1 ∨ op = 2 ∨ op = 3
  · have HOp := Lib.hid hop
    have d1 : decide (op < 1) = false := decide_eq_false (by omega)
    have d2 : decide (3 < op) = false := decide_eq_false (by omega)
    obtain ⟨c, hc⟩ : ∃ c, nvE T nm vs = c := ⟨_, rfl⟩
    rw [hc] at HNv
    have HC := Lib.hid hc
    clear hc hop
    go_wp2_with fail
    refine (HTy.out _ HB.out).mono ?_
    rintro e w1 ⟨rfl, hb⟩
    have hbl := below_al w1 (.cells #[.string tn', .int .i64 ty', .bool ts'] 104)
    have HB1 := Lib.hid (HB.out.trans ((hb.trans (hbl.mono hb.size)).mono HB.out.size))
    have HK1 := Lib.hid (And.intro ((HK.out.1.step hb).step hbl) ((HK.out.2.step hb).step hbl))
    clear hb hbl
    obtain ⟨c0, c1⟩ : (w1.alloc (.cells #[.string tn', .int .i64 ty', .bool ts'] 104)).cell? ⟨w.heap.size, 0, none⟩ = some (.slice to tn tc) ∧ (w1.alloc (.cells #[.string tn', .int .i64 ty', .bool ts'] 104)).cell? ⟨w.heap.size, 1, none⟩ = some (.slice co cn cc) := ⟨HK1.out.1.cell rfl, HK1.out.1.cell rfl⟩
    obtain ⟨m0, m1, m2⟩ : (w1.alloc (.cells #[.string tn', .int .i64 ty', .bool ts'] 104)).cell? ⟨w.heap.size + 1, 0, none⟩ = some (.int .i64 op) ∧ (w1.alloc (.cells #[.string tn', .int .i64 ty', .bool ts'] 104)).cell? ⟨w.heap.size + 1, 1, none⟩ = some (.string nm) ∧ (w1.alloc (.cells #[.string tn', .int .i64 ty', .bool ts'] 104)).cell? ⟨w.heap.size + 1, 2, none⟩ = some (.slice vo vn vc) := ⟨HK1.out.2.cell rfl, HK1.out.2.cell rfl, HK1.out.2.cell rfl⟩
    cases tb
    · go_wp2_with fail
      go_ret2
      exact MdP.no (mod_type HOp.out HTb.out) HB1.out
    · go_wp2_with fail
      refine (HNv.out _ HB1.out).mono ?_
      rintro e w2 ⟨u, rfl, hrow, hb⟩
      have HB2 := Lib.hid (HB1.out.trans (hb.mono HB1.out.size))
      have HK2 := Lib.hid (HK1.out.2.step hb)
      clear c0 c1 m0 m1 m2
      obtain ⟨m0, m1, m2⟩ : w2.cell? ⟨w.heap.size + 1, 0, none⟩ = some (.int .i64 op) ∧ w2.cell? ⟨w.heap.size + 1, 1, none⟩ = some (.string nm) ∧ w2.cell? ⟨w.heap.size + 1, 2, none⟩ = some (.slice vo vn vc) := ⟨HK2.out.cell rfl, HK2.out.cell rfl, HK2.out.cell rfl⟩
      by_cases h0 : c = 0
      · subst h0
        have hnl : nvL T nm vs = fmsL T nm vs := if_pos HC.out
        rw [hnl] at hrow
        obtain ⟨uo, uc, rfl, hst⟩ := strs_own hrow rfl
        have hfl := fms_len T nm vs
        rw [hfl, HVl.out] at hst ⊢
        have HEd := Lib.hid (edit_light (vs := fmsL T nm vs) hl (fun v hv => clean_sz (fms_clean (nv_fms HC.out).1 v hv)) (by rw [hfl, HVl.out]; exact hm))
        have HAd := Lib.hid (add_s ao uo n cap vn uc l nm (fmsL T nm vs) w2 (HA.out.below HB2.out) hst HEd.out hn)
        have HRm := Lib.hid (rem_s ao uo n cap vn uc l nm (fmsL T nm vs) w2 (HA.out.below HB2.out) hst HEd.out hn)
        have HRp := Lib.hid (rep_s ao uo n cap vn uc l nm (fmsL T nm vs) w2 (HA.out.below HB2.out) hst HEd.out hn)
        clear hb hrow hst hfl hnl
        rcases HOp.out with h1 | h1 | h1
        · subst h1
          have HE := Lib.hid (mod_add (T := T) (l := l) (m := ⟨1, nm, vs⟩) rfl HTb.out HC.out)
          go_wp2_with fail
          refine HAd.out.mono ?_
          rintro e w3 ⟨v, rfl, ⟨ro, rn, rc, rfl, hr⟩, hb⟩
          go_wp2_with fail
          go_ret2
          exact ⟨_, by rw [HE.out]; rfl, ⟨ro, rn, rc, rfl, by rw [HE.out]; exact hr⟩, HB2.out.trans (hb.mono HB2.out.size)⟩
        · subst h1
          have HE := Lib.hid (mod_rem (T := T) (l := l) (m := ⟨2, nm, vs⟩) rfl HTb.out HC.out)
          go_wp2_with fail
          refine HRm.out.mono ?_
          rintro e w3 ⟨v, rfl, ⟨ro, rn, rc, rfl, hr⟩, hb⟩
          go_wp2_with fail
          go_ret2
          exact ⟨_, by rw [HE.out]; rfl, ⟨ro, rn, rc, rfl, by rw [HE.out]; exact hr⟩, HB2.out.trans (hb.mono HB2.out.size)⟩
        · subst h1
          have HE := Lib.hid (mod_rep (T := T) (l := l) (m := ⟨3, nm, vs⟩) rfl HTb.out HC.out)
          go_wp2_with fail
          refine HRp.out.mono ?_
          rintro e w3 ⟨v, rfl, ⟨ro, rn, rc, rfl, hr⟩, hb⟩
          go_wp2_with fail
          go_ret2
          exact ⟨_, by rw [HE.out]; rfl, ⟨ro, rn, rc, rfl, by rw [HE.out]; exact hr⟩, HB2.out.trans (hb.mono HB2.out.size)⟩
      · have d3 : (c != 0) = true := by simpa using h0
        have HE := Lib.hid (mod_val (T := T) (l := l) (m := ⟨op, nm, vs⟩) HOp.out HTb.out HC.out h0)
        obtain ⟨uo, uc, rfl⟩ := row_slice hrow
        clear hb hrow
        go_wp2_with fail
        go_ret2
        exact MdP.no HE.out HB2.out
  · have HE := Lib.hid (mod_op (T := T) (l := l) (m := ⟨op, nm, vs⟩) hop)
    by_cases h1 : op < 1
    · have d1 : decide (op < 1) = true := decide_eq_true h1
      clear hop
      go_wp2_with fail
      go_ret2
      exact MdP.no HE.out HB.out
    · have d1 : decide (op < 1) = false := decide_eq_false h1
      have d2 : decide (3 < op) = true := decide_eq_true (by omega)
      clear hop
      go_wp2_with fail
      go_ret2
      exact MdP.no HE.out HB.out
end Go.Proofs.YtonfkhkalodldabGreatDoor
end
