/-
  Texts of the schema layer and of those beneath it, joined: CodecBuild, CodecStr, CodecC, CodecDec, CodecInt, CodecIntP, CodecEsc, CodecREsc, CodecRInt, CodecRInt2, NamL, NamP, NamC, NamM. Conditions stand at each contract.
-/
import Derived.Lib.Builder
import Derived.Lib.AppendStr
import Derived.Laws.Externs
import Derived.Laws.RangeAny
import Derived.Laws.RangeString
import Derived.Lib.RuneCount
import Derived.Lib.AtoiAllCases
import Derived.Lib.LaidTab
import Derived.Lib.ItoaLen
import Derived.Test.YtmmdaegdkikkpaaGreatDoorR04
set_option linter.unusedVariables false
set_option linter.unusedSimpArgs false
set_option linter.unnecessarySimpa false

section
set_option maxRecDepth 100000
namespace Go.Proofs.YtmmdaegdkikkpaaGreatDoor
open Go.RowKit Go.PlainAid
theorem bsize : (Tryz.prog.info? 79).map (·.size) = some 2 := by kernel_rfl
theorem blies : liesAt Tryz.prog Tryz.prog.depth 79 (2 / Tryz.prog.cellsOf 79) 0 79 1 = true := by kernel_rfl
set_option maxHeartbeats 1000000 in
set_option maxRecDepth 100000 in
theorem check_used (b : Nat) (w : World) (h0 : w.cell? ⟨b, 0, none⟩ = some (.pointer (some ⟨b, 0, none⟩))) :
  Calls Tryz.prog 115 #[.pointer (some ⟨b, 0, none⟩)] w fun e w' => e = .returned (.tuple #[]) ∧ w' = w := by
 obtain ⟨j, hj, _⟩ := Option.map_eq_some_iff.1 bsize
 go_enter Tryz.func115, Tryz.ntmps115
 go_wp2
 rw [Lib.run_neq_ptr_same w _ Tryz.underlying76 hj]
 go_wp2
 go_end0
 exact ⟨rfl, rfl⟩
set_option maxHeartbeats 1000000 in
set_option maxRecDepth 100000 in
theorem check_fresh (b : Nat) (w : World) (h0 : w.cell? ⟨b, 0, none⟩ = some (.pointer none)) (hsh : w.shape? b = some (79, 2)) (hfz : w.frozen? ⟨b, 0, none⟩ = false) :
  Calls Tryz.prog 115 #[.pointer (some ⟨b, 0, none⟩)] w fun e w' => e = .returned (.tuple #[]) ∧ w' = w.setCell ⟨b, 0, none⟩ (.pointer (some ⟨b, 0, none⟩)) := by
 obtain ⟨j, hj, hjs⟩ := Option.map_eq_some_iff.1 bsize
 go_enter Tryz.func115, Tryz.ntmps115
 go_wp2
 rw [Lib.run_to_unsafe w ⟨b, 0, none⟩ Tryz.underlying76 Tryz.underlying180 hj (by rw [hjs]; decide) hsh (Nat.zero_lt_succ 1)]
 simp only [Result.andThen]
 rw [Oper.upon_value]
 go_wp2
 rw [run_callFunc_extern Tryz.func180 (by kernel_rfl) (by kernel_rfl) (by kernel_rfl) (e := Extern.AbiNoEscape.same) (by kernel_rfl)]
 rw [Lib.run_noEscape]
 simp only [Result.andThen]
 rw [Oper.upon_value]
 go_wp2
 rw [Lib.run_from_unsafe w ⟨b, 0, none⟩ Tryz.underlying180 Tryz.underlying76 hj hsh blies]
 simp only [Result.andThen]
 rw [Oper.upon_value]
 go_wp2
 go_end0
 exact ⟨rfl, rfl⟩
def Bld (B b : Nat) (l : List UInt8) (w : World) : Prop := Lib.IsBuilder 79 5 B b (bcells l) w
theorem check_any (B b : Nat) (bs : List Value) (w : World) (h : Lib.IsBuilder 79 5 B b bs w) :
  Calls Tryz.prog 115 #[.pointer (some ⟨b, 0, none⟩)] w fun e w' => e = .returned (.tuple #[]) ∧ (Lib.BuilderAt 79 5 B b (.pointer (some ⟨b, 0, none⟩)) bs w' ∧ Below B w w') := by
 rcases h with h | h
 ·refine (check_fresh b w h.cell0 h.shape h.frozen0).mono ?_
  rintro e w' ⟨rfl, rfl⟩
  exact ⟨rfl, h.used _, (Below.refl B w).setCell (p := ⟨b, 0, none⟩) h.1 _⟩
 ·refine (check_used b w h.cell0).mono ?_
  rintro e w' ⟨rfl, rfl⟩
  exact ⟨rfl, h, Below.refl B _⟩
theorem push_byte_g {ops : Array Oper} {rest : List Oper} {o : Oper} {a : Act} {Q : Exit → Act → World → Prop} (wr : World) {base : Nat} {v : Value} {n : Nat} {xs : List Value} (hown : wr.ownsRow base 5 1 v n xs) (s x : Operand)
  (c : Int) (hgd : o.guard = none)
  (ho : o.op = .call { callee := .builtin .append, args := #[s, x], argTypes := #[77, 77] })
  (hs : a.eval s = v) (hx : a.eval x = .slice (some ⟨wr.heap.size, 0, none⟩) 1 1) (hn : n + 1 ≤ 140737488355328) (hbase : base ≤ wr.heap.size)
  (h : ∀ v' w', w'.ownsRow base 5 1 v' (n + 1) (xs ++ [.int .u8 c]) → (wr.alloc (.cells #[.int .u8 c] 5)).grownBy w' v.ownBlock → wpList Tryz.prog ops Q rest (a.put o.dst v') w') :
  wpList Tryz.prog ops Q (o :: rest) a (wr.alloc (.cells #[.int .u8 c] 5)) := by
 obtain ⟨i0, hi, hz0, hz1, hz2⟩ := info_parts info5
 refine wpList_append_own _ hgd s x 77 ho base 5 i0 (.int .u8 0) 1 1 Tryz.underlying77 hi hz0 hz1 hz2 rfl (by decide) v n xs hs (hown.alloc _) ⟨wr.heap.size, 0, none⟩ 1 1 [.int .u8 c] hx rfl
  (cell_one_new _ _ _) (by intro u hu; simp at hu; subst hu; rfl) (by unfold maxLen; omega) (by omega) (by simp; omega) ?_
 intro v' w' h1 h2 _
 exact h v' w' h1 h2
set_option maxHeartbeats 2000000 in
set_option maxRecDepth 100000 in
theorem writeByte_cells (B b : Nat) (bs : List Value) (c : Int) (w : World) (h : Lib.IsBuilder 79 5 B b bs w) (hlen : bs.length + 1 ≤ 140737488355328) (hBw : B ≤ w.heap.size) :
  Calls Tryz.prog 199 #[.pointer (some ⟨b, 0, none⟩), .int .u8 c] w fun e w' => e = .returned .nilIface ∧ (Lib.BuilderAt 79 5 B b (.pointer (some ⟨b, 0, none⟩)) (bs ++ [.int .u8 c]) w' ∧ Below B w w') := by
 go_enter Tryz.func199, Tryz.ntmps199
 go_wp2_with (go_at_call 115; refine (check_any B b bs _ h).mono ?_)
 rintro e w1 ⟨rfl, h1, hb1⟩
 obtain ⟨hB, v, hbk, hown, hne⟩ := h1
 have c1 : w1.cell? ⟨b, 1, none⟩ = some v := by rw [Lib.cell_of_heap hbk]; rfl
 have HZ := hb1.size
 go_wp2_with (at_builtin; refine push_byte_g w1 hown (.tmp 11) (.tmp 13) _ ?_ ?_ ?_ ?_ ?_ ?_ ?_; exact rfl; exact rfl; exact rfl; exact rfl; omega; omega)
 intro v' w2 hown' hgrow
 have hlt : b < w1.heap.size := by
  rcases Nat.lt_or_ge b w1.heap.size with h' | h'
  ·exact h'
  ·simp [Array.getElem?_eq_none h'] at hbk
 have hb2 : w2.heap[b]? = some (.cells #[.pointer (some ⟨b, 0, none⟩), v] 79 (0, 0)) := by
  rw [hgrow.block b (by simp; omega) (fun e => hne e.symm), Lib.alloc_old w1 _ b hlt]
  exact hbk
 have d1 : w2.cell? ⟨b, 1, none⟩ = some v := by rw [Lib.cell_of_heap hb2]; rfl
 have f1 : w2.frozen? ⟨b, 1, none⟩ = false := Lib.frozen_of_heap hb2 1
 obtain ⟨g, cap, rfl⟩ : ∃ g cap, v' = .slice (some ⟨g, 0, none⟩) (bs.length + 1) cap := by
  rcases hown'.2 with ⟨_, h0⟩ | ⟨g, cap, cur, hv, _⟩
  ·omega
  ·exact ⟨g, cap, hv⟩
 go_wp2
 go_ret
 refine ⟨rfl, ?_, ?_⟩
 ·exact Lib.BuilderAt.put (T := 79) (e := 5) hB hb2 (bs' := bs ++ [.int .u8 c]) (by simpa using hown') (by decide)
 ·exact ((hb1.alloc (by omega) _).grown hgrow (by simp; omega) (fun k hk => (hown.lt k hk).1)).setCell (p := ⟨b, 1, none⟩) hB _
theorem writeByte_s (B b : Nat) (l : List UInt8) (c : UInt8) (x : Int) (w : World) (h : Bld B b l w) (hx : x = (c.toNat : Int)) (hlen : l.length ≤ 100000000000) (hBw : B ≤ w.heap.size) :
  Calls Tryz.prog 199 #[.pointer (some ⟨b, 0, none⟩), .int .u8 x] w fun e w' => e = .returned .nilIface ∧ Bld B b (l ++ [c]) w' ∧ Below B w w' := by
 subst hx
 refine (writeByte_cells B b (bcells l) c.toNat w h (by rw [bcells_length]; omega) hBw).mono fun e w' h => ⟨h.1, ?_, h.2.2⟩
 unfold Bld
 rw [bcells_append]
 exact .inr h.2.1
theorem string_s (B b : Nat) (l : List UInt8) (w : World) (h : Bld B b l w) (hBw : B ≤ w.heap.size) :
  Calls Tryz.prog 59 #[.pointer (some ⟨b, 0, none⟩)] w fun e w' => e = .returned (.string ⟨l.toArray⟩) ∧ Below B w w' :=
 (Tryz.Builder_String_any B b l w h hBw).mono fun e w' h => ⟨h.1, h.2⟩
theorem bld_new (w : World) : Bld w.heap.size w.heap.size [] (w.alloc (.cells #[.pointer none, .slice none 0 0] 79)) := Lib.fresh_isBuilder _ _ w
theorem Bld.below {B b : Nat} {l : List UInt8} {w w' : World} (h : Bld B b l w) (hb : Below w.heap.size w w') : Bld B b l w' := by
 have one : ∀ p, Lib.BuilderAt 79 5 B b p (bcells l) w → Lib.BuilderAt 79 5 B b p (bcells l) w' := fun p h => by
  have hl := h.lt
  obtain ⟨hB, v, hbk, hown, hne⟩ := h
  refine ⟨hB, v, by rw [hb.block b hl]; exact hbk, ?_, hne⟩
  exact hown.kept (row := none) ⟨hb.os, hb.tape, hb.output, hb.size, fun k hk _ => hb.block k hk⟩ (by
   cases h : v.ownBlock
   ·exact .inl rfl
   ·exact .inr (by simp))
 rcases h with h | h
 ·exact .inl (one _ h)
 ·exact .inr (one _ h)
theorem strCells_b (s : ByteArray) : Lib.strCells s = bcells s.data.toList := rfl
end Go.Proofs.YtmmdaegdkikkpaaGreatDoor
end

section
set_option maxRecDepth 100000
namespace Go.Proofs.YtmmdaegdkikkpaaGreatDoor
open Go.PlainAid
def pieces (b : UInt8) : List UInt8 → List (List UInt8)
 | [] => [[]]
 | c :: l => if c = b then [] :: pieces b l else match pieces b l with
  | p :: r => (c :: p) :: r
  | [] => [[c]]
theorem occ_one (l : List UInt8) (b : UInt8) (i : Nat) : Lib.occAt l [b] i = true ↔ l[i]? = some b := by
 unfold Lib.occAt
 rw [← List.head?_drop]
 cases l.drop i with
 | nil => simp
 | cons c m =>
  simp only [List.isPrefixOf, Bool.and_true, List.head?_cons, Option.some.injEq, beq_iff_eq]
  exact eq_comm
theorem pieces_hit (b : UInt8) : ∀ (l : List UInt8) (i : Nat), l[i]? = some b → (∀ j, j < i → l[j]? ≠ some b) → pieces b l = l.take i :: pieces b (l.drop (i + 1))
 | [], i, h, _ => by simp at h
 | c :: l, 0, h, _ => by
  have : c = b := by simpa using h
  conv => lhs; unfold pieces
  rw [if_pos this]; rfl
 | c :: l, i + 1, h, hn => by
  have hc : c ≠ b := fun e => hn 0 (by omega) (by rw [e]; rfl)
  have ih := pieces_hit b l i (by simpa using h) (fun j hj => by have := hn (j + 1) (by omega); simpa using this)
  conv => lhs; unfold pieces
  rw [if_neg hc, ih]
  rfl
theorem pieces_miss (b : UInt8) : ∀ (l : List UInt8), (∀ j : Nat, l[j]? ≠ some b) → pieces b l = [l]
 | [], _ => rfl
 | c :: l, hn => by
  have hc : c ≠ b := fun e => hn 0 (by rw [e]; rfl)
  have ih := pieces_miss b l (fun j => by have := hn (j + 1); simpa using this)
  unfold pieces
  rw [if_neg hc, ih]
theorem cut_one (t : ByteArray) (b : UInt8) : (cutOk t ⟨#[b]⟩ = true ∧ pieces b t.data.toList = (cutBef t ⟨#[b]⟩).data.toList :: pieces b (cutAft t ⟨#[b]⟩).data.toList ∧ (cutAft t ⟨#[b]⟩).size < t.size ∧ (cutBef t ⟨#[b]⟩).size ≤ t.size ∧
   (∀ j : Nat, (cutBef t ⟨#[b]⟩).data.toList[j]? ≠ some b)) ∨
  (cutOk t ⟨#[b]⟩ = false ∧ pieces b t.data.toList = [t.data.toList] ∧ cutBef t ⟨#[b]⟩ = t ∧ cutAft t ⟨#[b]⟩ = ⟨#[]⟩) := by
 have e : (⟨#[b]⟩ : ByteArray).data.toList = [b] := rfl
 rcases Lib.index_spec t.data.toList [b] with ⟨hi, hn⟩ | ⟨i, hi, hle, ho, hno⟩
 ·refine .inr ?_
  have hcut : Lib.cut t.data.toList (⟨#[b]⟩ : ByteArray).data.toList = (t.data.toList, [], false) := by
   unfold Lib.cut; rw [e, hi]; rfl
  refine ⟨by unfold cutOk; rw [hcut], ?_, ?_, ?_⟩
  ·refine pieces_miss b _ (fun j hj => ?_)
   have hlt : j < t.data.toList.length := (List.getElem?_eq_some_iff.1 hj).1
   have := hn j (by omega)
   rw [(occ_one _ _ _).2 hj] at this
   cases this
  ·unfold cutBef; rw [hcut]
  ·unfold cutAft; rw [hcut]
 ·refine .inl ?_
  have hget := (occ_one _ _ _).1 ho
  have hlt : i < t.data.toList.length := (List.getElem?_eq_some_iff.1 hget).1
  have hcut : Lib.cut t.data.toList (⟨#[b]⟩ : ByteArray).data.toList = (t.data.toList.take i, t.data.toList.drop (i + 1), true) := by
   unfold Lib.cut; rw [e, hi, if_pos (by omega)]; simp
  have hno' : ∀ j, j < i → t.data.toList[j]? ≠ some b := fun j hj h => by
   have := hno j hj
   rw [(occ_one _ _ _).2 h] at this
   cases this
  have eb : (cutBef t ⟨#[b]⟩).data.toList = t.data.toList.take i := by unfold cutBef; rw [hcut]
  have ea : (cutAft t ⟨#[b]⟩).data.toList = t.data.toList.drop (i + 1) := by unfold cutAft; rw [hcut]
  refine ⟨by unfold cutOk; rw [hcut], ?_, ?_, ?_, ?_⟩
  ·rw [eb, ea]; exact pieces_hit b _ i hget hno'
  ·rw [Lib.size_eq, Lib.size_eq t, ea, List.length_drop]; omega
  ·rw [Lib.size_eq, Lib.size_eq t, eb, List.length_take]; omega
  ·intro j hj
   rw [eb, List.getElem?_take] at hj
   by_cases h : j < i
   ·rw [if_pos h] at hj; exact hno' j h hj
   ·rw [if_neg h] at hj; cases hj
def ofL (l : List UInt8) : ByteArray := ⟨l.toArray⟩
end Go.Proofs.YtmmdaegdkikkpaaGreatDoor
end

section
set_option maxRecDepth 100000
namespace Go.Proofs.YtmmdaegdkikkpaaGreatDoor
open Go.RowKit Go.PlainAid
def digB (c : UInt8) : Bool := decide (48 ≤ c.toNat) && decide (c.toNat ≤ 57)
def stripL (l : List UInt8) : List UInt8 := Lib.trimPrefix l [45]
theorem byte_chr (t : ByteArray) (k : Nat) (h : k < t.size) : ((t[k]'h).toNat : Int) = bt t k := by unfold bt; rw [dif_pos h]
def IntOk (w : World) : Prop := Lib.TabIs Tryz.prog w "internal/strconv.uint64pow10" .u64 Lib.pow10Tab ∧ ∃ tp p, w.var? Tryz.prog "strconv.ErrRange" = some #[.iface tp p]
theorem var_below {w w' : World} {B : Nat} {n : String} {cs : Array Value} (h : w.var? Tryz.prog n = some cs) (hb : Below B w w') (hB : w.heap.size ≤ B) : w'.var? Tryz.prog n = some cs := by
 unfold World.var? at h ⊢
 cases hg : Tryz.prog.globalNamed n with
 | none => rw [hg] at h; cases h
 | some g =>
  rw [hg] at h
  simp only [Option.bind_some] at h ⊢
  have hlt : g < w.heap.size := by
   rcases Nat.lt_or_ge g w.heap.size with k | k
   ·exact k
   ·rw [Array.getElem?_eq_none k] at h; cases h
  rw [hb.block g (by omega)]
  exact h
theorem IntOk.below {w w' : World} (h : IntOk w) (hb : Below w.heap.size w w') : IntOk w' :=
 ⟨var_below h.1 hb (Nat.le_refl _), by obtain ⟨tp, p, e⟩ := h.2; exact ⟨tp, p, var_below e hb (Nat.le_refl _)⟩⟩
theorem below_bw (w : World) (e : TypeId) (s : ByteArray) : Below w.heap.size w (Lib.bytesWorld w e s) :=
 ⟨rfl, rfl, rfl, by rw [Lib.bytesWorld_size]; omega, fun j hj => Lib.bytesWorld_at_old w e s j hj⟩
theorem below_grow (w : World) (k : Nat) (os : Array Obj) : Below w.heap.size w (Go.Sort.grow (w.drewN k) os) :=
 ⟨rfl, rfl, rfl, by simp [Go.Sort.grow], fun j hj => by simp [Go.Sort.grow, Array.getElem?_append, hj]⟩
theorem atoi_ok (s : ByteArray) (v : Int) (w : World) (hs : s.size ≤ 1000000000) (h : Lib.atoiAll s.data.toList = .ok v) :
  Calls Tryz.prog 235 #[.string s] w fun e w' => e = .returned (.tuple #[.int .i64 v, .nilIface]) ∧ Below w.heap.size w w' :=
 (Tryz.strconv_Atoi_ok s (by omega) v h w).mono fun e w' k => ⟨k.1, by
  rcases k.2 with rfl | ⟨t, rfl⟩
  ·exact Below.refl _ _
  ·exact below_bw _ _ _⟩
theorem itoa_s (n : Int) (w : World) (h0 : -9223372036854775808 ≤ n) (h1 : n ≤ 9223372036854775807) (ho : IntOk w) :
  Calls Tryz.prog 270 #[.int .i64 n] w fun e w' => e = .returned (.string (ofL (Lib.itoa n))) ∧ Below w.heap.size w w' :=
 (Tryz.strconv_Itoa n h0 h1 w ho.1).mono fun e w' ⟨k1, k, os, k2⟩ => ⟨k1, by rw [k2]; exact below_grow w k os⟩
def Fair {α : Type} (x : Lib.NumEnd α) : Prop := (∃ v, x = .ok v) ∨ x = .range
theorem parse_digits : ∀ (l : List UInt8) (acc : Nat), l.all digB = true → Fair (Lib.parseUint10 acc l)
 | [], acc, _ => .inl ⟨acc, rfl⟩
 | c :: r, acc, h => by
  rw [List.all_cons, Bool.and_eq_true] at h
  have hc : 48 ≤ c.toNat ∧ c.toNat ≤ 57 := by simpa [digB] using h.1
  unfold Lib.parseUint10
  rw [if_pos hc]
  split
  ·exact .inr rfl
  ·split
   ·exact .inr rfl
   ·exact parse_digits r _ h.2
theorem signless_fair {x : Lib.NumEnd Nat} (h : Fair x) : Fair (Lib.signless x) := by
 rcases h with ⟨v, rfl⟩ | rfl
 ·unfold Lib.signless; dsimp only; split
  ·exact .inr rfl
  ·exact .inl ⟨_, rfl⟩
 ·exact .inr rfl
theorem signed_fair {x : Lib.NumEnd Nat} (h : Fair x) : Fair (Lib.signed x) := by
 rcases h with ⟨v, rfl⟩ | rfl
 ·unfold Lib.signed; dsimp only; split
  ·exact .inr rfl
  ·exact .inl ⟨_, rfl⟩
 ·exact .inr rfl
theorem strip_minus (r : List UInt8) : stripL (45 :: r) = r := by simp [stripL, Lib.trimPrefix, Lib.hasPrefix]
theorem strip_plain (c : UInt8) (r : List UInt8) (h : c ≠ 45) : stripL (c :: r) = c :: r := by
 unfold stripL Lib.trimPrefix Lib.hasPrefix
 rw [if_neg]
 simp only [List.isPrefixOf, Bool.and_eq_true, beq_iff_eq]
 rintro ⟨e, _⟩; exact h e.symm
set_option maxRecDepth 100000 in
theorem int_s (n : Int) (w : World) (h0 : -9223372036854775808 ≤ n) (h1 : n ≤ 9223372036854775807) (ho : IntOk w) :
  Calls Tryz.prog 232 #[.int .i64 n] w fun e w' => e = .returned (.string (ofL (Lib.itoa n))) ∧ Below w.heap.size w w' := by
 have HO := Lib.hid ho; clear ho
 go_enter Tryz.func232, Tryz.ntmps232
 go_wp2_with (go_at_call 270; refine (itoa_s n _ h0 h1 HO.out).mono ?_; rintro e w1 ⟨rfl, hb1⟩)
 go_ret
 exact ⟨rfl, hb1⟩
set_option maxHeartbeats 1000000 in
theorem plain_any (c : Int) (w : World) (h0 : 0 ≤ c) (h1 : c ≤ 255) :
  Calls Tryz.prog 229 #[.int .u8 c] w fun e w' => e = .returned (.bool (plainI c)) ∧ w = w' := by
 cases a1 : (c == 37)
 ·cases a2 : (c == 124)
  ·cases a3 : (c == 44)
   ·cases a4 : (c == 61)
    ·cases a5 : (c == 59)
     ·cases a6 : (c == 34)
      ·by_cases b1 : 33 ≤ c
       ·by_cases b2 : c ≤ 126
        ·have HE := Lib.hid (show plainI c = true by unfold plainI; rw [a1, a2, a3, a4, a5, a6]; simp [b1, b2])
         have d2 : decide (c ≤ 126) = true := by simp [b2]
         go_enter Tryz.func229, Tryz.ntmps229
         go_wp2
         go_ret
         exact ⟨by rw [HE.out]; rfl, rfl⟩
        ·have HE := Lib.hid (show plainI c = false by unfold plainI; simp [b2])
         have d2 : decide (c ≤ 126) = false := by simp [b2]
         go_enter Tryz.func229, Tryz.ntmps229
         go_wp2
         go_ret
         exact ⟨by rw [HE.out]; rfl, rfl⟩
       ·have HE := Lib.hid (show plainI c = false by unfold plainI; simp [b1])
        go_enter Tryz.func229, Tryz.ntmps229
        go_wp2
        go_ret
        exact ⟨by rw [HE.out]; rfl, rfl⟩
      ·have HE := Lib.hid (show plainI c = false by unfold plainI; rw [a6]; simp)
       go_enter Tryz.func229, Tryz.ntmps229
       go_wp2
       go_ret
       exact ⟨by rw [HE.out]; rfl, rfl⟩
     ·have HE := Lib.hid (show plainI c = false by unfold plainI; rw [a5]; simp)
      go_enter Tryz.func229, Tryz.ntmps229
      go_wp2
      go_ret
      exact ⟨by rw [HE.out]; rfl, rfl⟩
    ·have HE := Lib.hid (show plainI c = false by unfold plainI; rw [a4]; simp)
     go_enter Tryz.func229, Tryz.ntmps229
     go_wp2
     go_ret
     exact ⟨by rw [HE.out]; rfl, rfl⟩
   ·have HE := Lib.hid (show plainI c = false by unfold plainI; rw [a3]; simp)
    go_enter Tryz.func229, Tryz.ntmps229
    go_wp2
    go_ret
    exact ⟨by rw [HE.out]; rfl, rfl⟩
  ·have HE := Lib.hid (show plainI c = false by unfold plainI; rw [a2]; simp)
   go_enter Tryz.func229, Tryz.ntmps229
   go_wp2
   go_ret
   exact ⟨by rw [HE.out]; rfl, rfl⟩
 ·have HE := Lib.hid (show plainI c = false by unfold plainI; rw [a1]; simp)
  go_enter Tryz.func229, Tryz.ntmps229
  go_wp2
  go_ret
  exact ⟨by rw [HE.out]; rfl, rfl⟩
set_option maxRecDepth 100000 in
set_option maxHeartbeats 2000000 in
theorem escape_any (s : ByteArray) (w : World) (hs : s.size ≤ 1000000000) :
  Calls Tryz.prog 160 #[.string s] w fun e w' => e = .returned (.string ⟨(escL s.data.toList).toArray⟩) ∧ Below w.heap.size w w' := by
 have hb := get_bt s
 have hx := get_bt (⟨#[48, 49, 50, 51, 52, 53, 54, 55, 56, 57, 65, 66, 67, 68, 69, 70]⟩ : ByteArray)
 have HN := Lib.hid (bld_new w)
 go_enter Tryz.func160, Tryz.ntmps160
 go_wp2
 go_loopw [7] (fun i wr => ∃ k : Nat, k ≤ s.size ∧ i = .int .i64 k ∧ Bld w.heap.size w.heap.size (escL (s.data.toList.take k)) wr ∧ Below w.heap.size w wr ∧ w.heap.size < wr.heap.size)
  (fun i _ => s.size - (intOf i).toNat)
 case atStart => exact ⟨0, Nat.zero_le _, rfl, HN.out, (Below.refl _ _).alloc (Nat.le_refl _) _, by simp⟩
 case round =>
  obtain ⟨k, hk, rfl, HB, hbel, hsz⟩ := hrel
  have h0 := bt_nonneg s k
  have h255 := bt_le s k
  have hl3 := escL_length (s.data.toList.take k)
  have hl4 : (s.data.toList.take k).length ≤ k := List.length_take_le _ _
  have HC := Lib.hid (bt_chr s k)
  by_cases hlt : k < s.size
  ·have HST := Lib.hid (esc_step s k hlt)
   have HP := Lib.hid (plain_chr s k)
   cases c1 : plainI (bt s k)
   ·have HST2 := Lib.hid (show escL (s.data.toList.take (k + 1)) = ((escL (s.data.toList.take k) ++ [37]) ++ [hexC ((chr s k).toNat / 16)]) ++ [hexC ((chr s k).toNat % 16)] by
     rw [HST.out, escC_other _ (by rw [HP.out, c1])]; simp)
    go_wp2_with (go_at_call 229; refine (plain_any _ _ h0 h255).mono ?_; rintro e w' ⟨rfl, rfl⟩)
    refine (writeByte_s w.heap.size w.heap.size _ 37 37 _ HB rfl (by omega) hbel.size).mono ?_
    rintro e w1 ⟨rfl, HB1, hb1⟩
    go_wp2_with fail
    refine (writeByte_s w.heap.size w.heap.size _ (hexC ((chr s k).toNat / 16)) _ _ HB1 (hex_hi _ _ HC.out) (by simp; omega) (Nat.le_trans hbel.size hb1.size)).mono ?_
    rintro e w2 ⟨rfl, HB2, hb2⟩
    go_wp2_with fail
    refine (writeByte_s w.heap.size w.heap.size _ (hexC ((chr s k).toNat % 16)) _ _ HB2 (hex_lo _ _ HC.out) (by simp; omega) (Nat.le_trans hbel.size (Nat.le_trans hb1.size hb2.size))).mono ?_
    rintro e w3 ⟨rfl, HB3, hb3⟩
    have hbel3 := hbel.trans (hb1.trans (hb2.trans hb3))
    go_wp2
    go_roundw
    case rel => exact ⟨k + 1, by omega, by go_num, by rw [HST2.out]; exact HB3, hbel3, Nat.lt_of_lt_of_le hsz (Nat.le_trans hb1.size (Nat.le_trans hb2.size hb3.size))⟩
    case measure => simp [intOf]; omega
   ·have HST2 := Lib.hid (show escL (s.data.toList.take (k + 1)) = escL (s.data.toList.take k) ++ [chr s k] by
     rw [HST.out, escC_plain _ (by rw [HP.out, c1])])
    go_wp2_with (go_at_call 229; refine (plain_any _ _ h0 h255).mono ?_; rintro e w' ⟨rfl, rfl⟩)
    refine (writeByte_s w.heap.size w.heap.size _ (chr s k) _ _ HB HC.out (by omega) hbel.size).mono ?_
    rintro e w1 ⟨rfl, HB1, hb1⟩
    go_wp2
    go_roundw
    case rel => exact ⟨k + 1, by omega, by go_num, by rw [HST2.out]; exact HB1, hbel.trans hb1, Nat.lt_of_lt_of_le hsz hb1.size⟩
    case measure => simp [intOf]; omega
  ·have HT := Lib.hid (show s.data.toList.take k = s.data.toList by rw [List.take_of_length_le]; simp; omega)
   rw [HT.out] at HB
   go_wp2_with (go_at_call 59; refine (string_s w.heap.size w.heap.size _ _ HB hbel.size).mono ?_; rintro e w1 ⟨rfl, hb1⟩)
   go_ret
   exact ⟨rfl, hbel.trans hb1⟩
end Go.Proofs.YtmmdaegdkikkpaaGreatDoor
end

section
set_option maxRecDepth 100000
namespace Go.Proofs.YtmmdaegdkikkpaaGreatDoor
namespace Nam
open Go.PlainAid
def spec4 (c : UInt8) : Bool := c == 44 || c == 61 || c == 43 || c == 92
def nextP (c : UInt8) : List UInt8 → Nat
 | [] => 0
 | x :: r => if x = c then 0 else if x = 92 then (match r with
   | [] => 1
   | _ :: r' => nextP c r' + 2) else nextP c r + 1
def valP : List UInt8 → Option (List UInt8)
 | [] => some []
 | x :: r => if x = 92 then (match r with
   | [] => none
   | y :: r' => if spec4 y then (valP r').map (y :: ·) else none) else if x = 61 ∨ x = 43 then none else (valP r).map (x :: ·)
def valQ : List UInt8 → Option (List UInt8)
 | [] => some []
 | x :: r => if x = 92 then (match r with
   | [] => none
   | y :: r' => if spec4 y then (valQ r').map (y :: ·) else none) else if spec4 x then none else (valQ r).map (x :: ·)
def escB (c : UInt8) : List UInt8 := if spec4 c then [92, c] else [c]
def escV (l : List UInt8) : List UInt8 := l.flatMap escB
def nocut (c : UInt8) (l : List UInt8) : Prop := nextP c l = l.length
theorem nextP_le (c : UInt8) : ∀ l, nextP c l ≤ l.length
 | [] => Nat.le_refl _
 | [x] => by
  unfold nextP
  by_cases h : x = c
  ·rw [if_pos h]; exact Nat.zero_le _
  ·rw [if_neg h]
   by_cases h2 : x = 92
   ·rw [if_pos h2]; exact Nat.le_refl _
   ·rw [if_neg h2]; simp [nextP]
 | x :: y :: r => by
  unfold nextP
  by_cases h : x = c
  ·rw [if_pos h]; exact Nat.zero_le _
  ·rw [if_neg h]
   by_cases h2 : x = 92
   ·rw [if_pos h2]; have := nextP_le c r; simp; exact this
   ·rw [if_neg h2]; have := nextP_le c (y :: r); simp at this ⊢; exact this
theorem spec4_iff (c : UInt8) : spec4 c = true ↔ c = 44 ∨ c = 61 ∨ c = 43 ∨ c = 92 := by
 unfold spec4; simp [or_assoc]
theorem valQ_valP : ∀ l, nocut 44 l → valQ l = valP l
 | [], _ => rfl
 | [x], h => by
  unfold nocut nextP at h
  by_cases h1 : x = 44
  ·rw [if_pos h1] at h; simp at h
  ·unfold valQ valP
   by_cases h2 : x = 92
   ·rw [if_pos h2, if_pos h2]
   ·rw [if_neg h2, if_neg h2]
    by_cases h3 : x = 61 ∨ x = 43
    ·rw [if_pos h3, if_pos (by rw [spec4_iff]; rcases h3 with h3 | h3 <;> simp [h3])]
    ·rw [if_neg h3, if_neg (by rw [spec4_iff]; simp at h3; simp [h1, h2, h3])]; rfl
 | x :: y :: r, h => by
  unfold nocut nextP at h
  by_cases h1 : x = 44
  ·rw [if_pos h1] at h; simp at h
  ·rw [if_neg h1] at h
   unfold valQ valP
   by_cases h2 : x = 92
   ·rw [if_pos h2] at h
    rw [if_pos h2, if_pos h2]
    show (if spec4 y = true then (valQ r).map (y :: ·) else none) = (if spec4 y = true then (valP r).map (y :: ·) else none)
    rw [valQ_valP r (by unfold nocut; simp at h; exact h)]
   ·rw [if_neg h2] at h
    rw [if_neg h2, if_neg h2, valQ_valP (y :: r) (by unfold nocut; simp at h ⊢; exact h)]
    by_cases h3 : x = 61 ∨ x = 43
    ·rw [if_pos h3, if_pos (by rw [spec4_iff]; rcases h3 with h3 | h3 <;> simp [h3])]
    ·rw [if_neg h3, if_neg (by rw [spec4_iff]; simp at h3; simp [h1, h2, h3])]
theorem nocut_take (c : UInt8) (hc : c ≠ 92) : ∀ l : List UInt8, nocut c (l.take (nextP c l))
 | [] => by unfold nocut; simp [nextP]
 | [x] => by
  unfold nocut
  conv => lhs; arg 2; arg 1; unfold nextP
  conv => rhs; arg 1; arg 1; unfold nextP
  by_cases h1 : x = c
  ·rw [if_pos h1]; simp [nextP]
  ·rw [if_neg h1]
   by_cases h2 : x = 92
   ·rw [if_pos h2]; simp [nextP, h1, h2]; exact fun e => absurd e.symm hc
   ·rw [if_neg h2]; simp [nextP, h1, h2]
 | x :: y :: r => by
  unfold nocut
  conv => lhs; arg 2; arg 1; unfold nextP
  conv => rhs; arg 1; arg 1; unfold nextP
  by_cases h1 : x = c
  ·rw [if_pos h1]; simp [nextP]
  ·rw [if_neg h1]
   by_cases h2 : x = 92
   ·have ih := nocut_take c hc r
    unfold nocut at ih
    rw [if_pos h2]
    show nextP c (x :: y :: r.take (nextP c r)) = (x :: y :: r.take (nextP c r)).length
    rw [show nextP c (x :: y :: r.take (nextP c r)) = nextP c (r.take (nextP c r)) + 2 by conv => lhs; unfold nextP; rw [if_neg h1, if_pos h2], ih]
    simp
   ·have ih := nocut_take c hc (y :: r)
    unfold nocut at ih
    rw [if_neg h2]
    show nextP c (x :: (y :: r).take (nextP c (y :: r))) = (x :: (y :: r).take (nextP c (y :: r))).length
    rw [show nextP c (x :: (y :: r).take (nextP c (y :: r))) = nextP c ((y :: r).take (nextP c (y :: r))) + 1 by conv => lhs; unfold nextP; rw [if_neg h1, if_neg h2], ih]
    simp
theorem nocut_drop (c d : UInt8) (hd : d ≠ 92) (hcd : c ≠ d) : ∀ l : List UInt8, nocut c l → nextP d l < l.length → nocut c (l.drop (nextP d l + 1))
 | [], _, h => by simp [nextP] at h
 | [x], h, h0 => by
  have : nextP d [x] = 0 := by simp at h0; exact h0
  rw [this]; unfold nocut; simp [nextP]
 | x :: y :: r, h, h0 => by
  have e0 : nextP d (x :: y :: r) = if x = d then 0 else if x = 92 then nextP d r + 2 else nextP d (y :: r) + 1 := by conv => lhs; unfold nextP
  have e1 : nextP c (x :: y :: r) = if x = c then 0 else if x = 92 then nextP c r + 2 else nextP c (y :: r) + 1 := by conv => lhs; unfold nextP
  unfold nocut at h
  rw [e1] at h
  have hxc : x ≠ c := fun e => by rw [if_pos e] at h; simp at h
  rw [if_neg hxc] at h
  rw [e0] at h0 ⊢
  by_cases h1 : x = d
  ·rw [if_pos h1]
   have h2 : x ≠ 92 := fun e => hd (h1.symm.trans e)
   rw [if_neg h2] at h
   unfold nocut; simp at h ⊢; exact h
  ·rw [if_neg h1] at h0 ⊢
   by_cases h2 : x = 92
   ·rw [if_pos h2] at h h0 ⊢
    have := nocut_drop c d hd hcd r (by unfold nocut; simp at h; exact h) (by simp at h0; exact h0)
    simpa using this
   ·rw [if_neg h2] at h h0 ⊢
    have := nocut_drop c d hd hcd (y :: r) (by unfold nocut; simp at h ⊢; exact h) (by simp at h0 ⊢; exact h0)
    simpa using this
theorem nocut_pre (c : UInt8) : ∀ a b : List UInt8, nocut c (a ++ b) → nocut c a
 | [], _, _ => by unfold nocut; simp [nextP]
 | [x], b, h => by
  unfold nocut at *
  have e1 : nextP c ([x] ++ b) = nextP c (x :: b) := rfl
  by_cases h1 : x = c
  ·rw [e1] at h
   unfold nextP at h
   rw [if_pos h1] at h; simp at h
  ·have e : nextP c [x] = if x = c then 0 else if x = 92 then 1 else nextP c [] + 1 := by conv => lhs; unfold nextP
   rw [e, if_neg h1]
   split <;> simp [nextP]
 | x :: y :: r, b, h => by
  have e0 : ∀ m, nextP c (x :: y :: m) = if x = c then 0 else if x = 92 then nextP c m + 2 else nextP c (y :: m) + 1 := fun m => by conv => lhs; unfold nextP
  unfold nocut at h ⊢
  rw [List.cons_append, List.cons_append, e0] at h
  rw [e0]
  by_cases h1 : x = c
  ·rw [if_pos h1] at h; simp at h
  ·rw [if_neg h1] at h ⊢
   by_cases h2 : x = 92
   ·rw [if_pos h2] at h ⊢
    have := nocut_pre c r b (by unfold nocut; simp at h ⊢; omega)
    unfold nocut at this; rw [this]; rfl
   ·rw [if_neg h2] at h ⊢
    have := nocut_pre c (y :: r) b (by unfold nocut; simp at h ⊢; omega)
    unfold nocut at this; rw [this]; rfl
theorem nocut_32 (c : UInt8) (hc : c ≠ 32) (l : List UInt8) (h : nocut c (32 :: l)) : nocut c l := by
 unfold nocut at *
 have e : nextP c (32 :: l) = nextP c l + 1 := by conv => lhs; unfold nextP; rw [if_neg (fun e => hc e.symm), if_neg (by decide)]
 rw [e] at h
 simpa using h
theorem nocut_left (c : UInt8) (hc : c ≠ 32) : ∀ l : List UInt8, nocut c l → nocut c (Lib.trimLeftB l 32)
 | [], h => h
 | x :: l, h => by
  unfold Lib.trimLeftB
  rw [List.dropWhile_cons]
  by_cases hx : (x == 32) = true
  ·rw [if_pos hx]
   have e : x = 32 := by simpa using hx
   rw [e] at h
   exact nocut_left c hc l (nocut_32 c hc l h)
  ·rw [if_neg hx]; exact h
theorem nocut_right (c : UInt8) (l : List UInt8) (h : nocut c l) : nocut c (Lib.trimRightB l 32) := by
 refine nocut_pre c _ (l.reverse.takeWhile (· == 32)).reverse ?_
 have e : Lib.trimRightB l 32 ++ (l.reverse.takeWhile (· == 32)).reverse = l := by
  unfold Lib.trimRightB
  rw [← List.reverse_append, List.takeWhile_append_dropWhile, List.reverse_reverse]
 rw [e]; exact h
theorem nocut_trim (c : UInt8) (hc : c ≠ 32) (l : List UInt8) (h : nocut c l) : nocut c (trimR l) := by
 unfold trimR; exact nocut_right c _ (nocut_left c hc l h)
def headOn (a : List UInt8) : List (List UInt8) → List (List UInt8)
 | [] => [a]
 | p :: ps => (a ++ p) :: ps
def pieces (c : UInt8) : List UInt8 → List (List UInt8)
 | [] => [[]]
 | x :: r => if x = c then [] :: pieces c r else if x = 92 then (match r with
   | [] => [[x]]
   | y :: r' => headOn [x, y] (pieces c r')) else headOn [x] (pieces c r)
theorem pieces_cut (c : UInt8) : ∀ l, pieces c l = l.take (nextP c l) :: (if nextP c l < l.length then pieces c (l.drop (nextP c l + 1)) else [])
 | [] => by simp [pieces, nextP]
 | [x] => by
  unfold pieces
  conv => rhs; unfold nextP
  by_cases h1 : x = c
  ·rw [if_pos h1, if_pos h1]; simp [pieces]
  ·rw [if_neg h1, if_neg h1]
   by_cases h2 : x = 92
   ·rw [if_pos h2, if_pos h2]; simp
   ·rw [if_neg h2, if_neg h2]; simp [pieces, nextP, headOn]
 | x :: y :: r => by
  have e1 : nextP c (x :: y :: r) = if x = c then 0 else if x = 92 then nextP c r + 2 else nextP c (y :: r) + 1 := by conv => lhs; unfold nextP
  have e2 : pieces c (x :: y :: r) = if x = c then [] :: pieces c (y :: r) else if x = 92 then headOn [x, y] (pieces c r) else headOn [x] (pieces c (y :: r)) := by conv => lhs; unfold pieces
  rw [e1, e2]
  by_cases h1 : x = c
  ·rw [if_pos h1, if_pos h1]; simp
  ·rw [if_neg h1, if_neg h1]
   by_cases h2 : x = 92
   ·rw [if_pos h2, if_pos h2, pieces_cut c r]; simp [headOn]
   ·rw [if_neg h2, if_neg h2, pieces_cut c (y :: r)]; simp [headOn]
abbrev Pr := ByteArray × ByteArray
def ofB (l : List UInt8) : ByteArray := ⟨l.toArray⟩
theorem ofB_data (l : List UInt8) : (ofB l).data.toList = l := rfl
theorem ofB_size (l : List UInt8) : (ofB l).size = l.length := by rw [Lib.size_eq]; rfl
/-! ### a component -/
def rawK (p : ByteArray) : ByteArray := trimS (tk p (nextP 61 p.data.toList))
def rawV (p : ByteArray) : ByteArray := trimS (dr p (nextP 61 p.data.toList + 1))
def prE (p : Pr) : Int := if nameB p.1 = false then 5 else if cleanB p.2 = false then 8 else 0
def compE (p : ByteArray) : Int := if nextP 61 p.data.toList < p.size then (match valP (rawV p).data.toList with
 | some v => prE (rawK p, ofB v)
 | none => 4) else 4
def compV (p : ByteArray) : Pr := (rawK p, ofB ((valP (rawV p).data.toList).getD []))
def nilPr : Pr := (ByteArray.empty, ByteArray.empty)
def compR (p : ByteArray) : Pr := if compE p = 0 then compV p else nilPr
theorem compE_ok {p : ByteArray} (h : compE p = 0) : nextP 61 p.data.toList < p.size ∧ valP (rawV p).data.toList = some (compV p).2.data.toList ∧ prE (compV p) = 0 := by
 unfold compE at h
 by_cases h1 : nextP 61 p.data.toList < p.size
 ·rw [if_pos h1] at h
  cases e : valP (rawV p).data.toList with
  | none => rw [e] at h; simp at h
  | some v =>
   rw [e] at h
   unfold compV
   rw [e]
   exact ⟨h1, rfl, h⟩
 ·rw [if_neg h1] at h; simp at h
/-! ### Parse -/
def firstE : List ByteArray → Int
 | [] => 0
 | p :: r => if compE p = 0 then firstE r else compE p
def piecesS (s : ByteArray) : List ByteArray := if s.size = 0 then [] else (pieces 44 s.data.toList).map ofB
def parseE (s : ByteArray) : Int := if firstE (piecesS s) = 0 then (if 8 < (piecesS s).length then 3 else 0) else firstE (piecesS s)
def parseV (s : ByteArray) : List Pr := if parseE s = 0 then (piecesS s).map compV else []
theorem firstE_app (a b : List ByteArray) (h : firstE a = 0) : firstE (a ++ b) = firstE b := by
 induction a with
 | nil => rfl
 | cons p r ih =>
  unfold firstE at h
  by_cases hp : compE p = 0
  ·rw [if_pos hp] at h
   show (if compE p = 0 then firstE (r ++ b) else compE p) = _
   rw [if_pos hp, ih h]
  ·rw [if_neg hp] at h; exact absurd h hp
theorem firstE_all {l : List ByteArray} (h : firstE l = 0) : ∀ p ∈ l, compE p = 0 := by
 induction l with
 | nil => intro p hp; cases hp
 | cons q r ih =>
  unfold firstE at h
  by_cases hq : compE q = 0
  ·rw [if_pos hq] at h
   intro p hp
   rcases List.mem_cons.1 hp with rfl | hp
   ·exact hq
   ·exact ih h p hp
  ·rw [if_neg hq] at h; exact absurd h hq
theorem firstE_zero {l : List ByteArray} (h : ∀ p ∈ l, compE p = 0) : firstE l = 0 := by
 induction l with
 | nil => rfl
 | cons q r ih => unfold firstE; rw [if_pos (h q (by simp)), ih (fun p hp => h p (by simp [hp]))]
/-! ### Format -/
def fmtC (p : Pr) : List UInt8 := (lowS p.1).data.toList ++ 61 :: escV (foldS p.2).data.toList
def barC : List (List UInt8) → List UInt8
 | [] => []
 | [p] => p
 | p :: q :: r => p ++ 44 :: barC (q :: r)
def fmtFirst : List Pr → Int
 | [] => 0
 | p :: r => if prE p = 0 then fmtFirst r else prE p
def fmtE (l : List Pr) : Int := if fmtFirst l = 0 then (if 8 < l.length then 3 else 0) else fmtFirst l
def fmtV (l : List Pr) : ByteArray := if fmtE l = 0 then ofB (barC (l.map fmtC)) else ByteArray.empty
theorem barC_snoc (p : List UInt8) : ∀ l : List (List UInt8), l ≠ [] → barC (l ++ [p]) = barC l ++ 44 :: p
 | [], h => absurd rfl h
 | [q], _ => rfl
 | q :: r :: t, _ => by
  have ih := barC_snoc p (r :: t) (by simp)
  show q ++ 44 :: barC (r :: t ++ [p]) = (q ++ 44 :: barC (r :: t)) ++ 44 :: p
  rw [ih]; simp
theorem fmtFirst_all {l : List Pr} (h : fmtFirst l = 0) : ∀ p ∈ l, prE p = 0 := by
 induction l with
 | nil => intro p hp; cases hp
 | cons q r ih =>
  unfold fmtFirst at h
  by_cases hq : prE q = 0
  ·rw [if_pos hq] at h
   intro p hp
   rcases List.mem_cons.1 hp with rfl | hp
   ·exact hq
   ·exact ih h p hp
  ·rw [if_neg hq] at h; exact absurd h hq
theorem fmtFirst_zero {l : List Pr} (h : ∀ p ∈ l, prE p = 0) : fmtFirst l = 0 := by
 induction l with
 | nil => rfl
 | cons q r ih => unfold fmtFirst; rw [if_pos (h q (by simp)), ih (fun p hp => h p (by simp [hp]))]
theorem fmtE_ok {l : List Pr} (h : fmtE l = 0) : (∀ p ∈ l, prE p = 0) ∧ l.length ≤ 8 := by
 unfold fmtE at h
 by_cases h1 : fmtFirst l = 0
 ·rw [if_pos h1] at h
  by_cases h2 : 8 < l.length
  ·rw [if_pos h2] at h; cases h
  ·exact ⟨fmtFirst_all h1, by omega⟩
 ·rw [if_neg h1] at h; exact absurd h h1
theorem fmtE_zero {l : List Pr} (h1 : ∀ p ∈ l, prE p = 0) (h2 : l.length ≤ 8) : fmtE l = 0 := by
 unfold fmtE; rw [if_pos (fmtFirst_zero h1), if_neg (by omega)]
theorem parseE_ok {s : ByteArray} (h : parseE s = 0) : (∀ p ∈ piecesS s, compE p = 0) ∧ (piecesS s).length ≤ 8 := by
 unfold parseE at h
 by_cases h1 : firstE (piecesS s) = 0
 ·rw [if_pos h1] at h
  by_cases h2 : 8 < (piecesS s).length
  ·rw [if_pos h2] at h; cases h
  ·exact ⟨firstE_all h1, by omega⟩
 ·rw [if_neg h1] at h; exact absurd h h1
theorem parseV_ok {s : ByteArray} (h : parseE s = 0) : (∀ p ∈ parseV s, prE p = 0) ∧ (parseV s).length ≤ 8 := by
 obtain ⟨h1, h2⟩ := parseE_ok h
 unfold parseV
 rw [if_pos h]
 refine ⟨fun p hp => ?_, by simpa using h2⟩
 obtain ⟨q, hq, rfl⟩ := List.mem_map.1 hp
 exact (compE_ok (h1 q hq)).2.2
theorem fmt_parse_ok {s : ByteArray} (h : parseE s = 0) : fmtE (parseV s) = 0 := fmtE_zero (parseV_ok h).1 (parseV_ok h).2
/-! ### Clean, Valid, the components of a normal form -/
def cleanE (s : ByteArray) : Int := if parseE s = 0 then fmtE (parseV s) else parseE s
def cleanV (s : ByteArray) : ByteArray := if parseE s = 0 then fmtV (parseV s) else ByteArray.empty
def normB (s : ByteArray) : Bool := decide (parseE s = 0) && decide (fmtV (parseV s) = s)
def compsV (s : ByteArray) : List Pr := if normB s then parseV s else []
theorem prE_zero (p : Pr) : prE p = 0 ↔ nameB p.1 = true ∧ cleanB p.2 = true := by
 unfold prE
 cases h1 : nameB p.1 <;> cases h2 : cleanB p.2 <;> simp
theorem mem_bt {s : ByteArray} {c : UInt8} (h : c ∈ s.data.toList) : ∃ j, j < s.size ∧ bt s j = (c.toNat : Int) := by
 obtain ⟨j, hj, rfl⟩ := List.getElem_of_mem h
 exact ⟨j, by rw [Lib.size_eq]; exact hj, bt_list s j _ (List.getElem?_eq_getElem hj)⟩
theorem ltrI_low (x : Int) : ltrI (if 65 ≤ x ∧ x ≤ 90 then x + 32 else x) = ltrI x := by
 rw [Bool.eq_iff_iff]; unfold ltrI; simp only [Bool.or_eq_true, Bool.and_eq_true, decide_eq_true_eq]
 split <;> omega
theorem nameP_low (x : Int) : nameP (if 65 ≤ x ∧ x ≤ 90 then x + 32 else x) = nameP x := by
 unfold nameP
 rw [ltrI_low]
 by_cases h : 65 ≤ x ∧ x ≤ 90
 ·rw [if_pos h]
  have : ltrI x = true := by unfold ltrI; simp; omega
  rw [this]; rfl
 ·rw [if_neg h]
theorem name_bytes {s : ByteArray} (h : nameB s = true) : ∀ c ∈ s.data.toList, c ≠ 44 ∧ c ≠ 61 ∧ c ≠ 92 ∧ c ≠ 32 := by
 intro c hc
 unfold nameB at h
 simp only [Bool.and_eq_true] at h
 obtain ⟨j, hj, e⟩ := mem_bt hc
 have := allB_iff.1 h.2 j hj
 rw [e] at this
 refine ⟨?_, ?_, ?_, ?_⟩ <;> (intro e2; subst e2; exact absurd this (by decide))
theorem norm_iff (s : ByteArray) : normB s = true ↔ parseE s = 0 ∧ fmtV (parseV s) = s := by
 unfold normB; simp
theorem cleanE_eq (s : ByteArray) : cleanE s = parseE s := by
 unfold cleanE
 by_cases h : parseE s = 0
 ·rw [if_pos h, fmt_parse_ok h, h]
 ·rw [if_neg h]
theorem comps_none {s : ByteArray} (h : normB s = false) : compsV s = [] := by unfold compsV; rw [h]; rfl
/-! ### case -/
theorem norm_clean (s : ByteArray) : normB s = (decide (cleanE s = 0) && decide (cleanV s = s)) := by
 rw [cleanE_eq]
 unfold normB cleanV
 by_cases h : parseE s = 0
 ·rw [if_pos h]
 ·simp [h]
/-! ### the family -/
/-! ### the order -/
structure Ord3 {α : Type} (f : α → α → Int) : Prop where
 range : ∀ a b, f a b = -1 ∨ f a b = 0 ∨ f a b = 1
 anti : ∀ a b, f b a = - f a b
 zero : ∀ a b, f a b = 0 ↔ a = b
 trans : ∀ a b c, f a b ≤ 0 → f b c ≤ 0 → f a c ≤ 0
theorem cmpS_ord : Ord3 cmpS :=
 ⟨fun a b => cb_range _ _, fun a b => cb_anti _ _, fun a b => by unfold cmpS; rw [cb_zero]; exact ⟨ba_ext, fun e => by rw [e]⟩, fun a b c h1 h2 => cb_trans _ _ _ h1 h2⟩
end Nam
end Go.Proofs.YtmmdaegdkikkpaaGreatDoor
end

section
set_option maxRecDepth 100000
namespace Go.Proofs.YtmmdaegdkikkpaaGreatDoor
namespace Nam
open Go.RowKit Go.PlainAid
theorem mark_table : ∀ n : Nat, n < 256 → decide (0 ≤ Lib.indexByte [44, 61, 43, 92] (UInt8.ofNat n)) = spec4 (UInt8.ofNat n) := by decide +kernel
theorem mark_lib (c : UInt8) : decide (0 ≤ Lib.indexByte [44, 61, 43, 92] c) = spec4 c := by
 have := mark_table c.toNat c.toNat_lt
 rwa [UInt8.ofNat_toNat] at this
set_option maxRecDepth 100000 in
set_option maxHeartbeats 1000000 in
theorem mark_s (x : Int) (c : UInt8) (w : World) (hx : x = (c.toNat : Int)) :
  Calls Tryz.prog 253 #[.int .u8 x] w fun e w' => e = .returned (.bool (spec4 c)) ∧ w = w' := by
 have HX := Lib.hid (show x.toNat.toUInt8 = c by subst hx; simp)
 have HM := Lib.hid (mark_lib c)
 clear hx
 go_enter Tryz.func253, Tryz.ntmps253
 go_wp2_with fail
 refine (Tryz.strings_IndexByte ⟨#[44, 61, 43, 92]⟩ x _).mono ?_
 rintro e w' ⟨rfl, rfl⟩
 rw [HX.out]
 generalize hv : Lib.indexByte (⟨#[44, 61, 43, 92]⟩ : ByteArray).data.toList c = v
 have HV := Lib.hid hv; clear hv
 go_wp2_with fail
 go_ret
 exact ⟨by rw [← HM.out, ← HV.out]; rfl, rfl⟩
set_option maxHeartbeats 1000000 in
theorem special_s (x : Int) (c : UInt8) (w : World) (hx : x = (c.toNat : Int)) :
  Calls Tryz.prog 214 #[.int .u8 x] w fun e w' => e = .returned (.bool (spec4 c)) ∧ w = w' := by
 have key : ∀ d : UInt8, (x == (d.toNat : Int)) = (c == d) := fun d => by
  rw [Bool.eq_iff_iff, beq_iff_eq, beq_iff_eq, hx]
  exact ⟨fun h => UInt8.toNat_inj.1 (by omega), fun h => by rw [h]⟩
 have k1 : (x == 44) = (c == 44) := key 44
 have k2 : (x == 61) = (c == 61) := key 61
 have k3 : (x == 43) = (c == 43) := key 43
 have k4 : (x == 92) = (c == 92) := key 92
 have HS : Hid (spec4 c = ((x == 44) || (x == 61) || (x == 43) || (x == 92))) := Lib.hid (by unfold spec4; rw [k1, k2, k3, k4])
 clear k1 k2 k3 k4 key hx
 cases a1 : (x == 44) <;> cases a2 : (x == 61) <;> cases a3 : (x == 43) <;> cases a4 : (x == 92)
 all_goals
  rw [a1, a2, a3, a4] at HS
  go_enter Tryz.func214, Tryz.ntmps214
  go_wp2
  go_ret
  exact ⟨by rw [HS.out]; rfl, rfl⟩
/-! ### where the separator stands -/
theorem next_here (c : UInt8) (s : ByteArray) (i : Nat) (h : i < s.size) (hc : chr s i = c) : nextP c (s.data.toList.drop i) = 0 := by
 rw [drop_chr s i h]; unfold nextP; rw [if_pos hc]
theorem next_esc (c : UInt8) (s : ByteArray) (i : Nat) (h : i < s.size) (hc : chr s i ≠ c) (h92 : chr s i = 92) :
  nextP c (s.data.toList.drop i) = if i + 1 < s.size then nextP c (s.data.toList.drop (i + 2)) + 2 else 1 := by
 rw [drop_chr s i h]
 conv => lhs; unfold nextP
 rw [if_neg hc, if_pos h92]
 by_cases h1 : i + 1 < s.size
 ·rw [drop_chr s (i + 1) h1, if_pos h1]
 ·rw [List.drop_eq_nil_of_le (by rw [← Lib.size_eq]; omega), if_neg h1]
theorem next_other (c : UInt8) (s : ByteArray) (i : Nat) (h : i < s.size) (hc : chr s i ≠ c) (h92 : chr s i ≠ 92) :
  nextP c (s.data.toList.drop i) = nextP c (s.data.toList.drop (i + 1)) + 1 := by
 rw [drop_chr s i h]
 conv => lhs; unfold nextP
 rw [if_neg hc, if_neg h92]
def NextAt (c : UInt8) (s : ByteArray) (i : Nat) : Prop := i ≤ s.size + 1 ∧ nextP c s.data.toList = min (i + nextP c (s.data.toList.drop i)) s.size
theorem nextAt_zero (c : UInt8) (s : ByteArray) : NextAt c s 0 := by
 refine ⟨by omega, ?_⟩
 have := nextP_le c s.data.toList
 rw [← Lib.size_eq] at this
 rw [List.drop_zero]; omega
theorem nextAt_here {c : UInt8} {s : ByteArray} {i : Nat} (h : NextAt c s i) (hi : i < s.size) (hc : chr s i = c) : nextP c s.data.toList = i := by
 rw [h.2, next_here c s i hi hc]; omega
theorem nextAt_esc {c : UInt8} {s : ByteArray} {i : Nat} (h : NextAt c s i) (hi : i < s.size) (hc : chr s i ≠ c) (h92 : chr s i = 92) : NextAt c s (i + 2) := by
 refine ⟨by omega, ?_⟩
 rw [h.2, next_esc c s i hi hc h92]
 by_cases h1 : i + 1 < s.size
 ·rw [if_pos h1]; omega
 ·rw [if_neg h1, List.drop_eq_nil_of_le (by rw [← Lib.size_eq]; omega)]; simp [nextP]; omega
theorem nextAt_other {c : UInt8} {s : ByteArray} {i : Nat} (h : NextAt c s i) (hi : i < s.size) (hc : chr s i ≠ c) (h92 : chr s i ≠ 92) : NextAt c s (i + 1) := by
 refine ⟨by omega, ?_⟩
 rw [h.2, next_other c s i hi hc h92]; omega
theorem nextAt_end {c : UInt8} {s : ByteArray} {i : Nat} (h : NextAt c s i) (hi : ¬ i < s.size) : nextP c s.data.toList = s.size := by
 rw [h.2]; omega
theorem bt_ne (s : ByteArray) (i : Nat) (c : UInt8) : (bt s i == (c.toNat : Int)) = decide (chr s i = c) := by
 rw [bt_chr, Bool.eq_iff_iff, beq_iff_eq, decide_eq_true_eq]
 exact ⟨fun h => UInt8.toNat_inj.1 (by omega), fun h => by rw [h]⟩
def cutA (c : UInt8) (s : ByteArray) : ByteArray := tk s (nextP c s.data.toList)
def cutZ (c : UInt8) (s : ByteArray) : ByteArray := if nextP c s.data.toList < s.size then dr s (nextP c s.data.toList + 1) else ByteArray.empty
def cutF (c : UInt8) (s : ByteArray) : Bool := decide (nextP c s.data.toList < s.size)
theorem extract_tk (s : ByteArray) (k : Nat) : s.extract 0 k = tk s k := by
 have : s = ⟨s.data.toList.toArray⟩ := (Lib.mk_data s).symm
 rw [this, Lib.extract_mk, List.drop_zero]; rfl
theorem cut_hit {c : UInt8} {s : ByteArray} {i : Nat} (h : nextP c s.data.toList = i) (hi : i < s.size) : cutA c s = s.extract 0 i ∧ cutZ c s = s.extract (i + 1) s.size ∧ cutF c s = true := by
 unfold cutA cutZ cutF
 rw [h, if_pos hi]
 exact ⟨(extract_tk s i).symm, (Lib.extract_from s (i + 1)).symm, decide_eq_true hi⟩
theorem cut_miss {c : UInt8} {s : ByteArray} (h : nextP c s.data.toList = s.size) : cutA c s = s ∧ cutZ c s = ByteArray.empty ∧ cutF c s = false := by
 unfold cutA cutZ cutF
 rw [h, if_neg (Nat.lt_irrefl _), tk_all]
 exact ⟨rfl, rfl, decide_eq_false (Nat.lt_irrefl _)⟩
set_option maxRecDepth 100000 in
set_option maxHeartbeats 2000000 in
theorem cut_s (s : ByteArray) (x : Int) (c : UInt8) (w : World) (hs : s.size ≤ 1000000000) (hx : x = (c.toNat : Int)) :
  Calls Tryz.prog 196 #[.string s, .int .u8 x] w fun e w' => e = .returned (.tuple #[.string (cutA c s), .string (cutZ c s), .bool (cutF c s)]) ∧ Below w.heap.size w w' := by
 have hb := get_bt s
 have HQ := Lib.hid (fun i => show (bt s i == x) = decide (chr s i = c) by rw [hx]; exact bt_ne s i c)
 clear hx
 go_enter Tryz.func196, Tryz.ntmps196
 go_wp2
 go_loop [7] (fun iv => ∃ i : Nat, iv = .int .i64 i ∧ i ≤ s.size + 1 ∧ Hid (NextAt c s i)) (fun iv => s.size + 1 - (intOf iv).toNat)
 case atStart => exact ⟨0, rfl, by omega, Lib.hid (nextAt_zero c s)⟩
 case round =>
  obtain ⟨i, rfl, hi, HA⟩ := hrel
  by_cases hlt : i < s.size
  ·have i0 : (0 : Int) ≤ (i : Int) := by omega
   cases c1 : (bt s i == x)
   ·have HN := Lib.hid (show chr s i ≠ c by have := HQ.out i; rw [c1] at this; exact of_decide_eq_false this.symm)
    cases c2 : (bt s i == 92)
    ·have HM := Lib.hid (show chr s i ≠ 92 by have := bt_ne s i 92; rw [show ((92 : UInt8).toNat : Int) = 92 from rfl, c2] at this; exact of_decide_eq_false this.symm)
     have HT := Lib.hid (nextAt_other HA.out hlt HN.out HM.out)
     go_wp2
     go_round
     case rel => exact ⟨i + 1, by go_num, by omega, HT⟩
     case measure => simp [intOf]; omega
    ·have HM := Lib.hid (show chr s i = 92 by have := bt_ne s i 92; rw [show ((92 : UInt8).toNat : Int) = 92 from rfl, c2] at this; exact of_decide_eq_true this.symm)
     have HT := Lib.hid (nextAt_esc HA.out hlt HN.out HM.out)
     go_wp2
     go_round
     case rel => exact ⟨i + 2, by go_num, by omega, HT⟩
     case measure => simp [intOf]; omega
   ·have HN := Lib.hid (show chr s i = c by have := HQ.out i; rw [c1] at this; exact of_decide_eq_true this.symm)
    have HC := Lib.hid (cut_hit (nextAt_here HA.out hlt HN.out) hlt)
    have m5 : IntKind.i64.wrap ((i : Int) + 1) = (i : Int) + 1 := IntWalk.i64_in _ (by omega)
    have k1 : (i : Int) ≤ (s.size : Int) := by omega
    have k2 : (0 : Int) ≤ (i : Int) + 1 := by omega
    have k3 : (i : Int) + 1 ≤ (s.size : Int) := by omega
    have k4 : ((i : Int) + 1).toNat = i + 1 := by omega
    go_wp2
    go_region_held3 (fun _ => True) (trivial) ((fail))
    go_wp2
    go_ret3
    exact ⟨by rw [HC.out.1, HC.out.2.1, HC.out.2.2]; rfl, (Below.refl _ _).drew⟩
  ·have HC := Lib.hid (cut_miss (nextAt_end HA.out hlt))
   go_wp2
   go_ret3
   exact ⟨by rw [HC.out.1, HC.out.2.1, HC.out.2.2]; rfl, Below.refl _ _⟩
set_option maxRecDepth 100000 in
set_option maxHeartbeats 2000000 in
theorem next_s (s : ByteArray) (x : Int) (c : UInt8) (w : World) (hs : s.size ≤ 1000000000) (hx : x = (c.toNat : Int)) :
  Calls Tryz.prog 212 #[.string s, .int .u8 x] w fun e w' => e = .returned (.int .i64 (nextP c s.data.toList : Nat)) ∧ w = w' := by
 have hb := get_bt s
 have HQ := Lib.hid (fun i => show (bt s i == x) = decide (chr s i = c) by rw [hx]; exact bt_ne s i c)
 clear hx
 go_enter Tryz.func212, Tryz.ntmps212
 go_wp2
 go_loop [5] (fun iv => ∃ i : Nat, iv = .int .i64 i ∧ i ≤ s.size + 1 ∧ Hid (NextAt c s i)) (fun iv => s.size + 1 - (intOf iv).toNat)
 case atStart => exact ⟨0, rfl, by omega, Lib.hid (nextAt_zero c s)⟩
 case round =>
  obtain ⟨i, rfl, hi, HA⟩ := hrel
  by_cases hlt : i < s.size
  ·have i0 : (0 : Int) ≤ (i : Int) := by omega
   cases c1 : (bt s i == x)
   ·have HN := Lib.hid (show chr s i ≠ c by have := HQ.out i; rw [c1] at this; exact of_decide_eq_false this.symm)
    cases c2 : (bt s i == 92)
    ·have HM := Lib.hid (show chr s i ≠ 92 by have := bt_ne s i 92; rw [show ((92 : UInt8).toNat : Int) = 92 from rfl, c2] at this; exact of_decide_eq_false this.symm)
     have HT := Lib.hid (nextAt_other HA.out hlt HN.out HM.out)
     go_wp2
     go_round
     case rel => exact ⟨i + 1, by go_num, by omega, HT⟩
     case measure => simp [intOf]; omega
    ·have HM := Lib.hid (show chr s i = 92 by have := bt_ne s i 92; rw [show ((92 : UInt8).toNat : Int) = 92 from rfl, c2] at this; exact of_decide_eq_true this.symm)
     have HT := Lib.hid (nextAt_esc HA.out hlt HN.out HM.out)
     go_wp2
     go_round
     case rel => exact ⟨i + 2, by go_num, by omega, HT⟩
     case measure => simp [intOf]; omega
   ·have HN := Lib.hid (show chr s i = c by have := HQ.out i; rw [c1] at this; exact of_decide_eq_true this.symm)
    have HC := Lib.hid (nextAt_here HA.out hlt HN.out)
    go_wp2
    go_ret
    exact ⟨by rw [HC.out]; rfl, rfl⟩
  ·have HC := Lib.hid (nextAt_end HA.out hlt)
   go_wp2
   go_ret
   exact ⟨by rw [HC.out]; rfl, rfl⟩
end Nam
end Go.Proofs.YtmmdaegdkikkpaaGreatDoor
end
