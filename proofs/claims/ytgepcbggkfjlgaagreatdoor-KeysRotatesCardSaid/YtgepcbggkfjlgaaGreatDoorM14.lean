/-
  Texts of the schema layer and of those beneath it, joined: KeyQ, KeyR, KeyS, KeyU, KeyV. Conditions stand at each contract.
-/
import Derived.Test.YtgepcbggkfjlgaaGreatDoorM02
import Derived.Test.YtgepcbggkfjlgaaGreatDoorM06
import Derived.Test.YtgepcbggkfjlgaaGreatDoorM13

section
/-
  Contract of keys' line. Condition: strings of at most 1000000 bytes; the tables of strconv.
-/
set_option maxRecDepth 100000
set_option linter.unusedVariables false
set_option linter.unusedSimpArgs false
set_option linter.unnecessarySimpa false
namespace Go.Proofs.YtgepcbggkfjlgaaGreatDoor
open Go.RowKit Go.PlainAid

theorem esc_q (s x : ByteArray) (w : World) (hs : s.size ≤ 1000000000) (hx : escA s = x) :
    Calls Tryz.prog 72 #[.string s] w fun e w' => e = .returned (.string x) ∧ Below w.heap.size w w' := by subst hx; exact escape_any s w hs
theorem int_q (n : Int) (x : ByteArray) (w : World) (h : -9223372036854775808 ≤ n ∧ n ≤ 9223372036854775807) (ho : IntOk w) (hx : intS n = x) :
    Calls Tryz.prog 74 #[.int .i64 n] w fun e w' => e = .returned (.string x) ∧ Below w.heap.size w w' := by subst hx; exact int_s n w h.1 h.2 ho
theorem join_q (ao : Option Addr) (n cap : Nat) (l : List ByteArray) (t : ByteArray) (w : World) (h : StrsAt w ao n cap l) (hn : 0 < n) (hl : n ≤ 1000) (hz : ∀ s ∈ l, s.size ≤ 1000000000) (ht : joinB 32 l = t) :
    Calls Tryz.prog 75 #[.slice ao n cap, .string ⟨#[32]⟩] w fun e w' => e = .returned (.string t) ∧ Below w.heap.size w w' := by subst ht; exact joinF_s 32 ao n cap l w h hn hl hz
/-- an append of one string to a row of the call's own, and a block that it leaves alone -/
theorem push_keep {ops : Array Oper} {rest : List Oper} {o : Oper} {a : Act} {Q : Exit → Act → World → Prop} (wr : World) {base : Nat} {v : Value} {n : Nat} {xs : List Value} (hown : wr.ownsRow base 9 1 v n xs) (s x : Operand)
    (p : ByteArray) (q : Nat) (hq : q < wr.heap.size) (hv : v.ownBlock ≠ some q) (hgd : o.guard = none)
    (ho : o.op = .call { callee := .builtin .append, args := #[s, x], argTypes := #[88, 88] })
    (hs : a.eval s = v) (hx : a.eval x = .slice (some ⟨wr.heap.size, 0, none⟩) 1 1) (hn : n + 1 ≤ 1000000000) (hbase : base ≤ wr.heap.size)
    (h : ∀ v' w', w'.ownsRow base 9 1 v' (n + 1) (xs ++ [.string p]) → Below base wr w' → v'.ownBlock ≠ some q → w'.heap[q]? = wr.heap[q]? → wpList Tryz.prog ops Q rest (a.put o.dst v') w') :
    wpList Tryz.prog ops Q (o :: rest) a (wr.alloc (.cells #[.string p] 9)) := by
  obtain ⟨i0, hi, hz0, hz1, hz2⟩ := info_parts info_string
  refine wpList_append_lies _ hgd s x 88 ho base 9 i0 (.string ⟨#[]⟩) 1 16 Tryz.underlying88 hi hz0 hz1 hz2 rfl (by decide) v n xs hs (hown.alloc _) ⟨wr.heap.size, 0, none⟩ 1 1 [.string p] hx rfl
    (cell_one_new _ _ _) (by intro u hu; simp at hu; subst hu; rfl) (by decide) (by unfold maxLen; omega) (by omega) (by simp; omega) (wr.heap.size + 1) (by simp) ?_
  intro g cap w' h1 h2 h3 _
  refine h _ w' h1 ?_ (fun e => ?_) ?_
  · exact ((Below.refl base wr).alloc hbase _).grown h2 (by simp; omega) (fun k hk => (hown.lt k hk).1)
  · have e2 : g = q := by
      have : (some g : Option Nat) = some q := e
      exact Option.some.inj this
    subst e2
    rcases h3 with h3 | h3
    · exact hv h3
    · omega
  · rw [h2.block q (by simp; omega) (fun e => hv e.symm)]
    exact Below.heap_alloc wr _ q hq
/-- the k-th number of a key -/
def nmK (g : Ky) (k : Nat) : Int := match k with
  | 0 => g.sf
  | 1 => g.su
  | 2 => g.af
  | _ => g.au
theorem nm_r {g : Ky} (h : InR6 g) (k : Nat) : -9223372036854775808 ≤ nmK g k ∧ nmK g k ≤ 9223372036854775807 := by
  match k with
  | 0 => exact h.a
  | 1 => exact h.b
  | 2 => exact h.c
  | k + 3 => exact h.d
theorem pt_cell {V : World} {p b : Nat} (h : KbC V p (ptB b)) {k : Nat} (hk : k < 4) : V.cell? ⟨p, k, none⟩ = some (.pointer (some ⟨b, 2 + k, none⟩)) := by
  have : k = 0 ∨ k = 1 ∨ k = 2 ∨ k = 3 := by omega
  rcases this with rfl | rfl | rfl | rfl
  · exact h.cell (i := 0) rfl
  · exact h.cell (i := 1) rfl
  · exact h.cell (i := 2) rfl
  · exact h.cell (i := 3) rfl
theorem nm_cell {V : World} {b : Nat} {g : Ky} (h : KbC V b (kB g)) {k : Nat} (hk : k < 4) : V.cell? ⟨b, 2 + k, none⟩ = some (.int .i64 (nmK g k)) := by
  have : k = 0 ∨ k = 1 ∨ k = 2 ∨ k = 3 := by omega
  rcases this with rfl | rfl | rfl | rfl
  · exact h.cell (i := 2) rfl
  · exact h.cell (i := 3) rfl
  · exact h.cell (i := 4) rfl
  · exact h.cell (i := 5) rfl
theorem wk_next {g : Ky} {k : Nat} (hk : k < 4) : (wordsK g).take (2 + k) ++ [intS (nmK g k)] = (wordsK g).take (2 + (k + 1)) := by
  have : k = 0 ∨ k = 1 ∨ k = 2 ∨ k = 3 := by omega
  rcases this with rfl | rfl | rfl | rfl <;> rfl
set_option maxHeartbeats 4000000 in
theorem line_k (g : Ky) (t : ByteArray) (w : World) (h : SmL g) (ho : IntOk w) (ht : lineK g ++ ⟨#[10]⟩ = t) :
    Calls Tryz.prog 49 #[kV g] w fun e w' => e = .returned (.string t) ∧ Below w.heap.size w w' := by
  have HWl := Lib.hid (words_le h)
  have HT := Lib.hid ht
  have HO := Lib.hid ho
  have HN := Lib.hid h.num
  have hll := line_le h
  obtain ⟨x, hx⟩ : ∃ x, escA g.sec = x := ⟨_, rfl⟩
  have hw2 : (wordsK g).take (2 + 0) = [g.id, x] := by rw [← hx]; rfl
  have HX := Lib.hid hx
  have hs1 : g.sec.size ≤ 1000000000 := Nat.le_trans h.sec (by omega)
  have HR0 := Lib.hid (show RsB w w.heap.size g (w.alloc (kB g)) from ⟨box_below w _, Nat.le_refl _, kbc_new w _⟩)
  have HR := Lib.hid (HR0.out.step (Below.refl (w.alloc (kB g)).heap.size (w.alloc (kB g))).drew)
  have HSt : Hid (∀ V, RsB w w.heap.size g V → V.cell? ⟨w.heap.size, 0, none⟩ = some (.string g.id) ∧ V.cell? ⟨w.heap.size, 1, none⟩ = some (.string g.sec)) := Lib.hid fun V h => ⟨(kb_cells h.box).1, (kb_cells h.box).2.1⟩
  have S0 := HSt.out _ HR.out
  clear hx ht ho h HR0
  dsimp only [kB, kcells] at HR S0
  unfold kV kcells
  go_enter Tryz.func49, Tryz.ntmps49
  go_wp2_with fail
  refine wp_region_held_drew (S := fun V => V.cell? ⟨w.heap.size, 0, none⟩ = some (.string g.id) ∧ V.cell? ⟨w.heap.size, 1, none⟩ = some (.string g.sec)) (by kernel_rfl) (S0) (fun hS => ?_)
  refine wpAnyH_take (i := 0) (oi := { dst := some 6, op := _, type := _, pos := _, after := _, guard := _ }) (v := ?_) rfl (by kernel_rfl) (by kernel_rfl) (by kernel_rfl) (fun _ _ _ h => h) (Or.inl ⟨by rfl, ?_⟩) (by assumption) ?_
  rotate_left
  · intro w hSw
    try dsimp only at hSw
    go_simp
    try with_reducible rfl
  try simp only [Act.put, List.setIfInBounds_toArray, List.set_cons_zero, List.set_cons_succ]
  refine wpAnyH_take (i := 1) (oi := { dst := some 7, op := _, type := _, pos := _, after := _, guard := _ }) (v := ?_) rfl (by kernel_rfl) (by kernel_rfl) (by kernel_rfl) (fun _ _ _ h => h) (Or.inl ⟨by rfl, ?_⟩) (by assumption) ?_
  rotate_left
  · intro w hSw
    try dsimp only at hSw
    go_simp
    try with_reducible rfl
  try simp only [Act.put, List.setIfInBounds_toArray, List.set_cons_zero, List.set_cons_succ]
  refine wpAnyH_take (i := 2) (oi := { dst := some 8, op := _, type := _, pos := _, after := _, guard := _ }) (v := ?_) rfl (by kernel_rfl) (by kernel_rfl) (by kernel_rfl) (fun _ _ _ h => h) (Or.inl ⟨by rfl, ?_⟩) (by assumption) ?_
  rotate_left
  · intro w hSw
    try dsimp only at hSw
    go_simp
    try with_reducible rfl
  try simp only [Act.put, List.setIfInBounds_toArray, List.set_cons_zero, List.set_cons_succ]
  refine wpAnyH_take (i := 3) (oi := { dst := some 9, op := _, type := _, pos := _, after := _, guard := _ }) (v := ?_) rfl (by kernel_rfl) (by kernel_rfl) (by kernel_rfl) (fun _ _ _ h => h) (Or.inl ⟨by rfl, ?_⟩) (by assumption) ?_
  rotate_left
  · intro w hSw
    try dsimp only at hSw
    go_simp
    try with_reducible rfl
  try simp only [Act.put, List.setIfInBounds_toArray, List.set_cons_zero, List.set_cons_succ]
  refine wpAnyH_ready (rs := [4]) (by kernel_rfl) (by simp) ?_
  refine AllReadyH.cons rfl (fun K hK => ?_) AllReadyH.nil
  go_simp
  refine (esc_q g.sec x _ hs1 HX.out).mono ?_
  rintro e v1 ⟨rfl, hb⟩
  have HR := Lib.hid (HR.out.step hb)
  clear hb
  go_wp2_with fail
  refine hK.out _ _ ?_ (fun hHeld => ?_)
  · exact HSt.out _ HR.out
  clear hK K
  try simp only [Act.put, List.setIfInBounds_toArray, List.set_cons_zero, List.set_cons_succ]
  refine wpAnyH_ready (rs := [5]) (by kernel_rfl) (by simp) ?_
  refine AllReadyH.cons rfl (fun K hK => ?_) AllReadyH.nil
  go_simp
  refine hK.out _ _ ?_ (fun hHeld => ?_)
  · exact HSt.out _ (HR.out.step (box_below v1 _))
  clear hK K
  have HQ := Lib.hid (World.ownsRow_lit (size := 1) (base := v1.heap.size) (e := 9) v1 #[.string g.id, .string x] 2 (Nat.le_refl _) (by unfold maxLen; omega) rfl)
  have HV := Lib.hid HR.out.low.size
  have HVb := Lib.hid HR.out.box.big
  have HR := Lib.hid (HR.out.step (box_below v1 (.cells #[.string g.id, .string x] 9)))
  try simp only [Act.put, List.setIfInBounds_toArray, List.set_cons_zero, List.set_cons_succ]
  refine wpAnyH_take (i := 6) (oi := { dst := some 3, op := _, type := _, pos := _, after := _, guard := _ }) (v := ?_) rfl (by kernel_rfl) (by kernel_rfl) (by kernel_rfl) (fun _ _ _ h => h) (Or.inl ⟨by rfl, ?_⟩) (by assumption) ?_
  rotate_left
  · intro w hSw
    try dsimp only at hSw
    go_simp
    try with_reducible rfl
  try simp only [Act.put, List.setIfInBounds_toArray, List.set_cons_zero, List.set_cons_succ]
  refine wpAnyH_done (by kernel_rfl) ?_ _
  clear S0
  have HO2 := Lib.hid (HO.out.below HR.out.low)
  go_wp2_with fail
  refine (bounds_k w.heap.size g _ HR.out.box).mono ?_
  rintro e w3 ⟨p, rfl, hp, hb, hge⟩
  have HR := Lib.hid (HR.out.step hb)
  have HQ3 := Lib.hid (own_below HQ.out hb)
  have HP := Lib.hid hp
  have HVl := Lib.hid (show v1.heap.size ≤ w3.heap.size from by have := hb.size; rw [World.size_alloc] at this; omega)
  have HNe := Lib.hid (show (Value.slice (some ⟨v1.heap.size, 0, none⟩) 2 2).ownBlock ≠ some p from fun e => by
    have e2 : v1.heap.size = p := Option.some.inj e
    rw [World.size_alloc] at hge
    omega)
  have HW2 := Lib.hid hw2
  clear hp hb hge hw2 HQ HO2
  go_wp2_with fail
  go_loopw [3, 14] (fun v iv wr => ∃ k : Nat, k ≤ 4 ∧ iv = .int .i64 k ∧ Hid (wr.ownsRow v1.heap.size 9 1 v (2 + k) (scells ((wordsK g).take (2 + k)))) ∧ Hid (v.ownBlock ≠ some p) ∧ Hid (KbC wr p (ptB w.heap.size)) ∧ Hid (RsB w w.heap.size g wr) ∧ Hid (v1.heap.size ≤ wr.heap.size)) (fun _ iv _ => 4 - (intOf iv).toNat)
  case atStart => exact ⟨0, by omega, rfl, Lib.hid (by rw [HW2.out]; exact HQ3.out), HNe, HP, HR, HVl⟩
  case round =>
    clear HNe HQ3 HP HVl
    obtain ⟨k, hk, rfl, HQ, HNe, HP, HRr, HVl⟩ := hrel
    by_cases hlt : k < 4
    · have p0 := pt_cell HP.out hlt
      have n0 := nm_cell HRr.out.box hlt
      obtain ⟨m, hm⟩ : ∃ m, nmK g k = m := ⟨_, rfl⟩
      rw [hm] at n0
      obtain ⟨y, hy⟩ : ∃ y, intS m = y := ⟨_, rfl⟩
      have hnx := wk_next (g := g) hlt
      rw [hm, hy] at hnx
      have HX := Lib.hid hnx
      have HY := Lib.hid hy
      have HM := Lib.hid (show -9223372036854775808 ≤ m ∧ m ≤ 9223372036854775807 from hm ▸ nm_r HN.out k)
      have HOr := Lib.hid (HO.out.below HRr.out.low)
      clear hnx hy hm
      go_wp2_with fail
      refine (int_q m y _ HM.out HOr.out HY.out).mono ?_
      rintro e w5 ⟨rfl, hb⟩
      have HQ5 := Lib.hid (own_below HQ.out hb)
      have HP5 := Lib.hid (HP.out.step hb)
      have HR5 := Lib.hid (HRr.out.step hb)
      have HV5 := Lib.hid (Nat.le_trans HVl.out hb.size)
      clear hb p0 n0
      go_wp2_with (at_builtin; refine push_keep _ HQ5.out (.tmp 18) (.tmp 23) y p HP5.out.big HNe.out ?_ ?_ ?_ ?_ ?_ ?_ ?_; exact rfl; exact rfl; exact rfl; exact rfl; omega; exact HV5.out; intro v6 w6 hown6 hb6 hne6 hk6)
      have HQ6 := Lib.hid (show w6.ownsRow v1.heap.size 9 1 v6 (2 + (k + 1)) (scells ((wordsK g).take (2 + (k + 1)))) from by
        rw [← HX.out, scells_snoc]; exact hown6)
      have HP6 := Lib.hid (show KbC w6 p (ptB w.heap.size) from hk6.trans HP5.out)
      have HN6 := Lib.hid hne6
      have HV6 := Lib.hid (Nat.le_trans HV5.out hb6.size)
      have HR6 := Lib.hid (show RsB w w.heap.size g w6 from ⟨HR5.out.low.trans (hb6.mono HV.out), HR5.out.at_, HR5.out.box.keep hb6 HVb.out⟩)
      clear hown6 hb6 hne6 hk6
      go_wp2_with fail
      go_roundw
      case rel => exact ⟨k + 1, by omega, by go_num, HQ6, HN6, HP6, HR6, HV6⟩
      case measure => simp [intOf]; omega
    · obtain rfl : k = 4 := by omega
      obtain ⟨ao, cap, e1, hat⟩ := strs_own (l := wordsK g) (n := 6) HQ.out rfl
      subst e1
      have HA := Lib.hid hat
      obtain ⟨y, hy⟩ : ∃ y, lineK g = y := ⟨_, rfl⟩
      have HE := Lib.hid (show y ++ ⟨#[10]⟩ = t from by rw [← hy]; exact HT.out)
      have hys : y.size ≤ 24000006 := by rw [← hy]; exact hll
      have hy2 : (y ++ (⟨#[10]⟩ : ByteArray)).size ≤ 24000010 := by
        have : (y ++ (⟨#[10]⟩ : ByteArray)).size = y.size + 1 := by rw [ByteArray.size_append]; rfl
        omega
      have HYl := Lib.hid (show joinB 32 (wordsK g) = y from hy)
      clear hat hy hll
      go_wp2_with fail
      refine (join_q ao 6 cap (wordsK g) y _ HA.out (by omega) (by omega) (fun s hs => Nat.le_trans (HWl.out s hs) (by omega)) HYl.out).mono ?_
      rintro e w7 ⟨rfl, hb⟩
      have HR7 := Lib.hid (HRr.out.step hb)
      clear hb
      go_wp2_with fail
      go_ret
      exact ⟨by rw [HE.out]; rfl, HR7.out.low⟩
end Go.Proofs.YtgepcbggkfjlgaaGreatDoor
end

section
/-
  Contract of keys' Text. Condition: strings of at most 1000000 bytes; the tables of strconv.
-/
set_option maxRecDepth 100000
set_option linter.unusedVariables false
set_option linter.unusedSimpArgs false
set_option linter.unnecessarySimpa false
namespace Go.Proofs.YtgepcbggkfjlgaaGreatDoor
open Go.RowKit Go.PlainAid

theorem tx_next {l : List Ky} {k : Nat} {g : Ky} {t : ByteArray} (h : k < l.length) (hg : kA l k = g) (ht : lineK g ++ ⟨#[10]⟩ = t) : txL (l.take k) ++ t.data.toList = txL (l.take (k + 1)) := by
  rw [take_k l k h, hg, txL_snoc, ← ht, ByteArray.data_append]
  simp
theorem len_q (B b : Nat) (l : List UInt8) (n : Nat) (w : World) (h : Bld B b l w) (hn : l.length = n) :
    Calls Tryz.prog 50 #[.pointer (some ⟨b, 0, none⟩)] w fun e w' => e = .returned (.int .i64 n) ∧ w' = w := by
  subst hn
  have := Tryz.Builder_Len B b (bcells l) w h
  rw [bcells_length] at this
  exact this
set_option maxHeartbeats 4000000 in
theorem text_k (ao : Option Addr) (n cap : Nat) (l : List Ky) (t : ByteArray) (z : Int) (w : World) (h : KsAt w ao n cap l) (hs : ∀ k ∈ l, k.id.size ≤ 1000000 ∧ k.sec.size ≤ 1000000) (ho : IntOk w) (hz : txtK l = (t, z)) :
    Calls Tryz.prog 26 #[.slice ao n cap] w fun e w' => e = .returned (.tuple #[.string t, .int .i64 z]) ∧ Below w.heap.size w w' := by
  have H := Lib.hid h
  have HO := Lib.hid ho
  obtain ⟨h1, h2, h3, _, _⟩ := h
  subst h1
  unfold maxLen at h3
  obtain ⟨c, qc⟩ : ∃ c, chkK l = c := ⟨_, rfl⟩
  have HQc := Lib.hid qc
  have HS := Lib.hid (show ∀ k ∈ l, SmK k from fun k hk => ⟨Nat.le_trans (hs k hk).1 (by omega), Nat.le_trans (hs k hk).2 (by omega)⟩)
  unfold txtK at hz
  cases qz : (c != 0)
  · have e0 : c = 0 := by simpa using qz
    subst e0
    have hok := okK_of qc
    have hn16 := hok.len
    have HL := Lib.hid (show ∀ k ∈ l, SmL k from fun k hk => ⟨(hs k hk).1, (hs k hk).2, win_inr (hok.win k hk)⟩)
    rw [if_neg (by rw [qc]; decide)] at hz
    have HZ := Lib.hid hz
    have hall := tx_size HL.out
    clear qz hz hs hok qc ho
    go_enter Tryz.func26, Tryz.ntmps26
    go_wp2_with fail
    refine (check_k _ _ cap l _ _ H.out HS.out HQc.out).mono ?_
    rintro e w1 ⟨rfl, hb1⟩
    have HL1 := Lib.hid hb1.size
    have HBd := Lib.hid (bld_new w1)
    have HB1 := Lib.hid (hb1.trans ((box_below w1 (.cells #[.pointer none, .slice none 0 0] 67)).mono hb1.size))
    have HS1 := Lib.hid (box_below w1 (.cells #[.pointer none, .slice none 0 0] 67)).size
    clear hb1
    go_wp2_with fail
    go_loopw [15] (fun iv wr => ∃ k : Nat, k ≤ l.length ∧ iv = .int .i64 k ∧ Hid (Bld w1.heap.size w1.heap.size (txL (l.take k)) wr) ∧ Hid (Below w.heap.size w wr) ∧ Hid (w1.heap.size ≤ wr.heap.size)) (fun iv _ => l.length - (intOf iv).toNat)
    case atStart => exact ⟨0, Nat.zero_le _, rfl, HBd, HB1, HS1⟩
    case round =>
      clear HB1 HBd HS1
      obtain ⟨k, hk, rfl, HBd, HB, HS1⟩ := hrel
      by_cases hlt : k < l.length
      · obtain ⟨b, off, rfl, hsl⟩ := H.out.2.2.2.1 (by omega)
        have hat := (hsl.below HB.out hsl.1).at_ hlt
        obtain ⟨g, hg⟩ : ∃ g, kA l k = g := ⟨_, rfl⟩
        rw [hg] at hat
        have HG := Lib.hid (HL.out g (by rw [← hg]; exact k_mem hlt))
        obtain ⟨y, hy⟩ : ∃ y, lineK g ++ (⟨#[10]⟩ : ByteArray) = y := ⟨_, rfl⟩
        have HX := Lib.hid (tx_next hlt hg hy)
        have hys : y.size ≤ 24000007 := by
          rw [← hy, ByteArray.size_append]
          have := line_le HG.out
          have e : (⟨#[10]⟩ : ByteArray).size = 1 := rfl
          omega
        have hts : (txL (l.take k)).length ≤ 400000000 := by
          have := tx_size (l := l.take k) fun q hq => HL.out q (List.mem_of_mem_take hq)
          rw [List.length_take] at this
          omega
        have HY := Lib.hid hy
        obtain ⟨c0, c1, c2, c3, c4, c5⟩ := hat
        have HBd2 := Lib.hid (HBd.out.below (box_below wr (kB g)))
        have HB2 := Lib.hid (HB.out.trans ((box_below wr (kB g)).mono HB.out.size))
        have HS2 := Lib.hid (Nat.le_trans HS1.out (box_below wr (kB g)).size)
        have HO2 := Lib.hid (HO.out.below HB2.out)
        have HK := Lib.hid (kbc_new wr (kB g))
        dsimp only [kB, kcells] at HBd2 HB2 HS2 HO2 HK
        have k0 := HK.out.cell (i := 0) rfl
        have k1 := HK.out.cell (i := 1) rfl
        have k2 := HK.out.cell (i := 2) rfl
        have k3 := HK.out.cell (i := 3) rfl
        have k4 := HK.out.cell (i := 4) rfl
        have k5 := HK.out.cell (i := 5) rfl
        clear hsl hg hy
        go_wp2_with fail
        refine (line_k g y _ HG.out HO2.out HY.out).mono ?_
        rintro e w3 ⟨rfl, hb⟩
        have HBd3 := Lib.hid (HBd2.out.below hb)
        have HB3 := Lib.hid (HB2.out.trans (hb.mono HB2.out.size))
        have HS3 := Lib.hid (Nat.le_trans HS2.out hb.size)
        clear hb c0 c1 c2 c3 c4 c5 k0 k1 k2 k3 k4 k5
        go_wp2_with fail
        refine (writeString_s w1.heap.size w1.heap.size (txL (l.take k)) y _ HBd3.out (by omega) HS3.out).mono ?_
        rintro e w4 ⟨rfl, hbd, hb⟩
        rw [HX.out] at hbd
        have HBd4 := Lib.hid hbd
        have HB4 := Lib.hid (HB3.out.trans (hb.mono HL1.out))
        have HS4 := Lib.hid (Nat.le_trans HS3.out hb.size)
        clear hb hbd
        go_wp2_with fail
        go_roundw
        case rel => exact ⟨k + 1, by omega, by go_num, HBd4, HB4, HS4⟩
        case measure => simp [intOf]; omega
      · obtain rfl : k = l.length := by omega
        have HBe := Lib.hid (show Bld w1.heap.size w1.heap.size (txL l) wr from by have := HBd.out; rw [List.take_length] at this; exact this)
        obtain ⟨m, hm⟩ : ∃ m, (txL l).length = m := ⟨_, rfl⟩
        have HM := Lib.hid hm
        have hz := HZ.out
        rw [hm] at hz
        by_cases d : 4096 < m
        · rw [if_pos d] at hz
          obtain ⟨rfl, rfl⟩ := Prod.mk.inj hz
          have d1 : (4096 : Int) < (m : Int) := by omega
          clear hm hz
          go_wp2_with fail
          refine (len_q w1.heap.size w1.heap.size (txL l) m _ HBe.out HM.out).mono ?_
          rintro e w4 ⟨rfl, rfl⟩
          go_wp2_with fail
          go_ret2
          exact ⟨rfl, HB.out⟩
        · rw [if_neg d] at hz
          obtain ⟨h5, rfl⟩ := Prod.mk.inj hz
          have HE := Lib.hid (show (⟨(txL l).toArray⟩ : ByteArray) = t from h5)
          have d1 : ¬ (4096 : Int) < (m : Int) := by omega
          clear hm hz h5
          go_wp2_with fail
          refine (len_q w1.heap.size w1.heap.size (txL l) m _ HBe.out HM.out).mono ?_
          rintro e w4 ⟨rfl, rfl⟩
          go_wp2_with fail
          refine (string_s w1.heap.size w1.heap.size (txL l) _ HBe.out HS1.out).mono ?_
          rintro e w5 ⟨rfl, hb⟩
          have HB5 := Lib.hid (HB.out.trans (hb.mono HL1.out))
          clear hb
          go_wp2_with fail
          go_ret2
          exact ⟨by rw [← HE.out]; rfl, HB5.out⟩
  · have e0 : c ≠ 0 := by simpa using qz
    rw [if_pos (by rw [qc]; exact e0), qc] at hz
    obtain ⟨rfl, rfl⟩ := Prod.mk.inj hz
    clear hz qc hs ho
    go_enter Tryz.func26, Tryz.ntmps26
    go_wp2_with fail
    refine (check_k _ _ cap l _ _ H.out HS.out HQc.out).mono ?_
    rintro e w1 ⟨rfl, hb1⟩
    have HB1 := Lib.hid hb1
    clear hb1
    go_wp2_with fail
    go_ret2
    exact ⟨rfl, HB1.out⟩
end Go.Proofs.YtgepcbggkfjlgaaGreatDoor
end

section
/-
  Contract of keys' readBounds. Condition: strings of at most 1000000000 bytes; the tables of strconv.
-/
set_option maxRecDepth 100000
set_option linter.unusedVariables false
set_option linter.unusedSimpArgs false
set_option linter.unnecessarySimpa false
namespace Go.Proofs.YtgepcbggkfjlgaaGreatDoor
open Go.RowKit Go.PlainAid

def setN (g : Ky) (k : Nat) (v : Int) : Ky := match k with
  | 0 => { g with sf := v }
  | 1 => { g with su := v }
  | 2 => { g with af := v }
  | _ => { g with au := v }
def wrN (ws : List ByteArray) : Nat → Int
  | 0 => 0
  | k + 1 => wrsE (wrN ws k) (rdI (sA ws k)).2
def gkN (g : Ky) (ws : List ByteArray) : Nat → Ky
  | 0 => g
  | k + 1 => setN (gkN g ws k) k (rdI (sA ws k)).1
theorem set_box {V : World} {b : Nat} {g : Ky} (h : KbC V b (kB g)) {k : Nat} (hk : k < 4) (v : Int) : KbC (V.setCell ⟨b, 2 + k, none⟩ (.int .i64 v)) b (kB (setN g k v)) := by
  have : k = 0 ∨ k = 1 ∨ k = 2 ∨ k = 3 := by omega
  rcases this with rfl | rfl | rfl | rfl
  · exact KbC.set (i := 2) h (.int .i64 v)
  · exact KbC.set (i := 3) h (.int .i64 v)
  · exact KbC.set (i := 4) h (.int .i64 v)
  · exact KbC.set (i := 5) h (.int .i64 v)
theorem readI_q (s : ByteArray) (x y : Int) (w w0 : World) (hs : s.size ≤ 1000000000) (ho : IntOk w0) (hb : Below w0.heap.size w0 w) (hx : rdI s = (x, y)) :
    Calls Tryz.prog 101 #[.string s] w fun e w' => e = .returned (.tuple #[.int .i64 x, .int .i64 y]) ∧ Below w.heap.size w w' := by
  have := readInt_s s w hs (ho.below hb)
  rw [show readI s.data.toList = (x, y) from hx] at this
  exact this
set_option maxHeartbeats 4000000 in
theorem readBounds_k (b wb off cap : Nat) (g : Ky) (ws : List ByteArray) (w0 w : World) (ho : IntOk w0) (h0 : Below w0.heap.size w0 w) (hb0 : w0.heap.size ≤ b) (hb : KbC w b (kB g)) (hw : StrsAt w (some ⟨wb, off, none⟩) 4 cap ws) (hne : wb ≠ b) (hs : ∀ s ∈ ws, s.size ≤ 1000000000) :
    Calls Tryz.prog 82 #[.pointer (some ⟨b, 0, none⟩), .slice (some ⟨wb, off, none⟩) 4 cap] w fun e w' => e = .returned (.int .i64 (wrN ws 4)) ∧ KbC w' b (kB (gkN g ws 4)) ∧ Below w0.heap.size w0 w' ∧ Bar b w w' := by
  have HO := Lib.hid ho
  have H0 := Lib.hid h0
  have HS := Lib.hid hs
  have HBb := Lib.hid hb.big
  have HC : Hid (∀ V, Bar b w V → ∀ k, k < 4 → V.cell? ⟨wb, off + k, none⟩ = some (.string (sA ws k))) := Lib.hid fun V hV k hk => by
    obtain ⟨b', off', e, hi⟩ := hw.2.2.2 (by omega)
    cases e
    exact (World.cell?_of_block (a := ⟨wb, off + k, none⟩) (hV.keep wb hi.1 hne)).trans (hi.2 k (by rw [hw.1]; exact hk))
  have hl := hw.1
  have hcp := hw.2.1
  have hcm := hw.2.2.1
  unfold maxLen at hcm
  have HK := Lib.hid hb
  clear ho h0 hs hw hb
  go_enter Tryz.func82, Tryz.ntmps82
  go_wp2_with fail
  refine (bounds_k b g _ HK.out).mono ?_
  rintro e w3 ⟨p, rfl, hp, hb3, hge⟩
  have HP := Lib.hid hp
  have HK3 := Lib.hid (HK.out.step hb3)
  have HB3 := Lib.hid (H0.out.trans (hb3.mono H0.out.size))
  have HR3 := Lib.hid ((Bar.refl b w).step hb3)
  have HPn := Lib.hid (show p ≠ b from by have := HBb.out; omega)
  clear hp hb3 hge
  go_wp2_with fail
  go_loopw [5, 13] (fun v iv wr => ∃ k : Nat, k ≤ 4 ∧ iv = .int .i64 k ∧ v = .int .i64 (wrN ws k) ∧ Hid (KbC wr b (kB (gkN g ws k))) ∧ Hid (KbC wr p (ptB b)) ∧ Hid (Below w0.heap.size w0 wr) ∧ Hid (Bar b w wr)) (fun _ iv _ => 4 - (intOf iv).toNat)
  case atStart => exact ⟨0, by omega, rfl, rfl, HK3, HP, HB3, HR3⟩
  case round =>
    clear HK3 HP HB3 HR3
    obtain ⟨k, hk, rfl, rfl, HK, HP, HB, HR⟩ := hrel
    by_cases hlt : k < 4
    · have p0 := pt_cell HP.out hlt
      have c0 := HC.out _ HR.out k hlt
      obtain ⟨s, hs⟩ : ∃ s, sA ws k = s := ⟨_, rfl⟩
      rw [hs] at c0
      have hss : s.size ≤ 1000000000 := by
        rw [← hs, sA_get (by rw [hl]; exact hlt)]
        exact HS.out _ (List.getElem_mem _)
      obtain ⟨⟨x, y⟩, hxy⟩ : ∃ q, rdI s = q := ⟨_, rfl⟩
      obtain ⟨a, ha⟩ : ∃ a, wrN ws k = a := ⟨_, rfl⟩
      have HA := Lib.hid ha
      have HX := Lib.hid hxy
      have hg : gkN g ws (k + 1) = setN (gkN g ws k) k x := by show setN (gkN g ws k) k (rdI (sA ws k)).1 = _; rw [hs, hxy]
      have HG := Lib.hid hg
      have hwr : wrN ws (k + 1) = wrsE a y := by show wrsE (wrN ws k) (rdI (sA ws k)).2 = _; rw [hs, hxy, ha]
      rw [ha]
      clear hg ha hxy hs
      cases q1 : (y != 0)
      · have e1 : y = 0 := by simpa using q1
        have HW1 := Lib.hid (show wrN ws (k + 1) = a from by rw [hwr]; unfold wrsE; exact if_neg fun h => h.1 e1)
        clear hwr
        go_wp2_with fail
        refine (readI_q s x y _ w0 hss HO.out HB.out HX.out).mono ?_
        rintro e w5 ⟨rfl, hb⟩
        have HK5 := Lib.hid (HK.out.step hb)
        have HP5 := Lib.hid (HP.out.step hb)
        have HB5 := Lib.hid (HB.out.trans (hb.mono HB.out.size))
        have HR5 := Lib.hid (HR.out.step hb)
        have n0 := nm_cell HK5.out hlt
        have nf : w5.frozen? ⟨b, 2 + k, none⟩ = false := HK5.out.frz
        have HK6 := Lib.hid (set_box HK5.out hlt x)
        have HP6 := Lib.hid (HP5.out.bar ((Bar.refl b w5).set (2 + k) (.int .i64 x)) HPn.out)
        have HB6 := Lib.hid (HB5.out.setCell (p := ⟨b, 2 + k, none⟩) hb0 (.int .i64 x))
        have HR6 := Lib.hid (HR5.out.set (2 + k) (.int .i64 x))
        clear hb p0 c0
        go_wp2_with fail
        go_roundw
        case rel => exact ⟨k + 1, by omega, by go_num, by first | (rw [HW1.out]; done) | rw [HW1.out, e2], Lib.hid (by rw [HG.out]; exact HK6.out), HP6, HB6, HR6⟩
        case measure => simp [intOf]; omega
      · have e1 : y ≠ 0 := by simpa using q1
        cases q2 : (a != 4)
        · have e2 : a = 4 := by simpa using q2
          have HW1 := Lib.hid (show wrN ws (k + 1) = a from by rw [hwr]; unfold wrsE; exact if_neg fun h => h.2 e2)
          clear hwr
          go_wp2_with fail
          refine (readI_q s x y _ w0 hss HO.out HB.out HX.out).mono ?_
          rintro e w5 ⟨rfl, hb⟩
          have HK5 := Lib.hid (HK.out.step hb)
          have HP5 := Lib.hid (HP.out.step hb)
          have HB5 := Lib.hid (HB.out.trans (hb.mono HB.out.size))
          have HR5 := Lib.hid (HR.out.step hb)
          have n0 := nm_cell HK5.out hlt
          have nf : w5.frozen? ⟨b, 2 + k, none⟩ = false := HK5.out.frz
          have HK6 := Lib.hid (set_box HK5.out hlt x)
          have HP6 := Lib.hid (HP5.out.bar ((Bar.refl b w5).set (2 + k) (.int .i64 x)) HPn.out)
          have HB6 := Lib.hid (HB5.out.setCell (p := ⟨b, 2 + k, none⟩) hb0 (.int .i64 x))
          have HR6 := Lib.hid (HR5.out.set (2 + k) (.int .i64 x))
          clear hb p0 c0
          go_wp2_with fail
          go_roundw
          case rel => exact ⟨k + 1, by omega, by go_num, by first | (rw [HW1.out]; done) | rw [HW1.out, e2], Lib.hid (by rw [HG.out]; exact HK6.out), HP6, HB6, HR6⟩
          case measure => simp [intOf]; omega
        · have e2 : a ≠ 4 := by simpa using q2
          have HW1 := Lib.hid (show wrN ws (k + 1) = y from by rw [hwr]; unfold wrsE; exact if_pos ⟨e1, e2⟩)
          clear hwr
          go_wp2_with fail
          refine (readI_q s x y _ w0 hss HO.out HB.out HX.out).mono ?_
          rintro e w5 ⟨rfl, hb⟩
          have HK5 := Lib.hid (HK.out.step hb)
          have HP5 := Lib.hid (HP.out.step hb)
          have HB5 := Lib.hid (HB.out.trans (hb.mono HB.out.size))
          have HR5 := Lib.hid (HR.out.step hb)
          have n0 := nm_cell HK5.out hlt
          have nf : w5.frozen? ⟨b, 2 + k, none⟩ = false := HK5.out.frz
          have HK6 := Lib.hid (set_box HK5.out hlt x)
          have HP6 := Lib.hid (HP5.out.bar ((Bar.refl b w5).set (2 + k) (.int .i64 x)) HPn.out)
          have HB6 := Lib.hid (HB5.out.setCell (p := ⟨b, 2 + k, none⟩) hb0 (.int .i64 x))
          have HR6 := Lib.hid (HR5.out.set (2 + k) (.int .i64 x))
          clear hb p0 c0
          go_wp2_with fail
          go_roundw
          case rel => exact ⟨k + 1, by omega, by go_num, by first | (rw [HW1.out]; done) | rw [HW1.out, e2], Lib.hid (by rw [HG.out]; exact HK6.out), HP6, HB6, HR6⟩
          case measure => simp [intOf]; omega
    · obtain rfl : k = 4 := by omega
      obtain ⟨a, ha⟩ : ∃ a, wrN ws 4 = a := ⟨_, rfl⟩
      rw [ha]
      have HA := Lib.hid ha
      clear ha
      go_wp2_with fail
      go_ret
      exact ⟨by rw [HA.out]; rfl, HK.out, HB.out, HR.out⟩
end Go.Proofs.YtgepcbggkfjlgaaGreatDoor
end

section
/-
  Contract of keys' readKey. Condition: at most 1000000 bytes; the tables of strconv and strings.
-/
set_option maxRecDepth 100000
set_option linter.unusedVariables false
set_option linter.unusedSimpArgs false
set_option linter.unnecessarySimpa false
namespace Go.Proofs.YtgepcbggkfjlgaaGreatDoor
open Go.RowKit Go.PlainAid

theorem read_results (tmps : Array Value) (b : Nat) (cs : Array Value) (t : TypeId) (W : World) (hp : tmps.getD 2 undef = .pointer (some ⟨b, 0, none⟩)) (h : KbC W b (.cells cs t)) (h8 : cs.size = 6) :
    (results Tryz.f54 tmps).run Tryz.prog W = .ok (.tuple #[.agg cs, tmps.getD 3 undef]) W := by
  rw [results_cell_tmp rfl, hp]
  have hl := run_loadVar_row (P := Tryz.prog) W b t 31 cs (0, 0) _ h (by rfl) (by rfl) (by rw [h8]; rfl)
  simp [asAddr, Result.andThen, hl]
theorem un_q (s u : ByteArray) (z : Int) (w : World) (hs : s.size ≤ 1000000000) (hu : unS s = u) (hz : unE s = z) :
    Calls Tryz.prog 81 #[.string s] w fun e w' => e = .returned (.tuple #[.string u, .int .i64 z]) ∧ Below w.heap.size w w' := by subst hu; subst hz; exact unescape_s s w hs
theorem split_q (s : ByteArray) (l : List ByteArray) (n : Nat) (w : World) (hs : s.size ≤ 1000000) (hm : MaxOk w) (hl : partsB 32 s = l) (hn : l.length = n) :
    Calls Tryz.prog 80 #[.string s, .string ⟨#[32]⟩] w fun e w' => ∃ B, e = .returned (.slice (some ⟨B, 0, none⟩) n n) ∧ w.heap.size ≤ B ∧ StrsAt w' (some ⟨B, 0, none⟩) n n l ∧ Below w.heap.size w w' := by
  subst hn; subst hl; exact (splitF_s 32 s w (by omega) hm).mono fun e w' h => ⟨_, h.1, Nat.le_refl _, h.2⟩
theorem rd_6 {s i x a b c d : ByteArray} (h : partsB 32 s = [i, x, a, b, c, d]) : rdK s = if unE x ≠ 0 then (kZ, unE x) else if bndE a b c d ≠ 0 then (kZ, bndE a b c d) else (⟨i, unS x, (rdI a).1, (rdI b).1, (rdI c).1, (rdI d).1⟩, 0) := by
  unfold rdK; rw [h]
theorem rd_no {s : ByteArray} (h : (partsB 32 s).length ≠ 6) : rdK s = (kZ, 4) := by
  unfold rdK
  split
  · next e => rw [e] at h; exact absurd rfl h
  · rfl
set_option maxHeartbeats 4000000 in
theorem readKey_k (s : ByteArray) (g : Ky) (z : Int) (w : World) (hs : s.size ≤ 1000000) (ho : IntOk w) (hm : MaxOk w) (hmg : 0 < w.heap.size) (hz : rdK s = (g, z)) :
    Calls Tryz.prog 54 #[.string s] w fun e w' => e = .returned (.tuple #[kV g, .int .i64 z]) ∧ Below w.heap.size w w' := by
  have HO := Lib.hid ho
  have HR := Lib.hid (show RsB w w.heap.size kZ (w.alloc (kB kZ)) from ⟨box_below w _, Nat.le_refl _, kbc_new w _⟩)
  have HM := Lib.hid (show MaxOk (w.alloc (kB kZ)) from hm.below (box_below w (kB kZ)) hmg)
  have HSs := Lib.hid (World.size_alloc w (kB kZ))
  dsimp only [kB, kcells, kZ] at HR HM HSs
  obtain ⟨l, hl⟩ : ∃ l, partsB 32 s = l := ⟨_, rfl⟩
  have HL := Lib.hid hl
  have HZl := Lib.hid (show ∀ x ∈ l, x.size ≤ 1000000000 from fun x hx => by rw [← hl] at hx; exact Nat.le_trans (partsB_small hx) (by omega))
  clear ho hm
  by_cases h6 : l.length = 6
  · obtain ⟨i, x, a, b, c, d, rfl⟩ := k_list6 h6
    rw [rd_6 hl] at hz
    obtain ⟨u, hu⟩ : ∃ u, unS x = u := ⟨_, rfl⟩
    obtain ⟨q, hq⟩ : ∃ q, unE x = q := ⟨_, rfl⟩
    rw [hq, hu] at hz
    have HU := Lib.hid hu
    have HQ := Lib.hid hq
    have hxs : x.size ≤ 1000000000 := HZl.out x (by simp)
    clear hl hu hq h6
    cases q1 : (q != 0)
    · have e0 : q = 0 := by simpa using q1
      subst e0
      rw [if_neg (by decide)] at hz
      clear q1
      obtain ⟨m, hmm⟩ : ∃ m, bndE a b c d = m := ⟨_, rfl⟩
      rw [hmm] at hz
      have HM4 := Lib.hid (show wrN [a, b, c, d] 4 = m from hmm)
      have HG4 := Lib.hid (show gkN ⟨i, u, 0, 0, 0, 0⟩ [a, b, c, d] 4 = ⟨i, u, (rdI a).1, (rdI b).1, (rdI c).1, (rdI d).1⟩ from rfl)
      have HZ := Lib.hid hz
      clear hz hmm
      go_enter Tryz.func54, Tryz.ntmps54
      go_wp2_with fail
      refine (split_q s [i, x, a, b, c, d] 6 _ hs HM.out HL.out rfl).mono ?_
      rintro e w1 ⟨B, rfl, hge, hst, hb⟩
      have HR1 := Lib.hid (HR.out.step hb)
      have HW := Lib.hid hst
      have HB1 := Lib.hid hb
      have HGe := Lib.hid (show w.heap.size < B from by rw [HSs.out] at hge; omega)
      obtain ⟨b7, off7, e7, _, hat⟩ := hst.at (by omega)
      cases e7
      have c1 := hat w1 (Below.refl _ _) 1 (by omega)
      clear hst hb hge hat
      go_wp2_with fail
      refine (un_q x u 0 _ hxs HU.out HQ.out).mono ?_
      rintro e w2 ⟨rfl, hb⟩
      have HR2 := Lib.hid (HR1.out.step hb)
      have HW2 := Lib.hid (HW.out.below hb)
      obtain ⟨b7, off7, e7, _, hat⟩ := HW2.out.at (by omega)
      cases e7
      have c0 : w2.cell? ⟨B, 0, none⟩ = some (.string i) := hat w2 (Below.refl _ _) 0 (by omega)
      clear hb hat c1
      have HR3 := Lib.hid (HR2.out.step (box_below w2 (kB ⟨i, u, 0, 0, 0, 0⟩)))
      have HW3 := Lib.hid (HW2.out.below (box_below w2 (kB ⟨i, u, 0, 0, 0, 0⟩)))
      have HK3 := Lib.hid (kbc_new w2 (kB ⟨i, u, 0, 0, 0, 0⟩))
      have HBl := Lib.hid (show B < w2.heap.size from by
        obtain ⟨b8, off8, e8, hi⟩ := HW2.out.2.2.2 (by omega)
        cases e8
        exact hi.1)
      dsimp only [kB, kcells] at HR3 HW3 HK3
      go_wp2_with fail
      refine (readBounds_k w2.heap.size B 2 4 ⟨i, u, 0, 0, 0, 0⟩ [a, b, c, d] w _ HO.out HR3.out.low HR2.out.low.size HK3.out (HW3.out.drop).drop (Nat.ne_of_lt HBl.out) (fun y hy => HZl.out y (List.mem_cons_of_mem _ (List.mem_cons_of_mem _ hy)))).mono ?_
      rintro e w4 ⟨rfl, hk, hb, hr⟩
      rw [HG4.out] at hk
      rw [HM4.out]
      have HK4 := Lib.hid hk
      have HB4 := Lib.hid hb
      have HRs := Lib.hid (HR3.out.box.bar hr (Nat.ne_of_lt HR2.out.box.big))
      obtain ⟨g0, g1, g2, g3, g4, g5⟩ := kb_cells HRs.out
      have gf : ∀ j, w4.frozen? ⟨w.heap.size, j, none⟩ = false := fun j => HRs.out.frz
      clear hk hb hr c0
      have hz := HZ.out
      cases qm : (m != 0)
      · have e0 : m = 0 := by simpa using qm
        subst e0
        rw [if_neg (by decide)] at hz
        obtain ⟨rfl, rfl⟩ := Prod.mk.inj hz
        obtain ⟨x0, x1, x2, x3, x4, x5⟩ := kb_cells HK4.out
        clear hz
        go_wp2_with fail
        exact bodyPost_ret (read_results _ _ _ _ _ rfl (KbC.set6 HRs.out) rfl) rfl ⟨rfl, below_set6 HB4.out (Nat.le_refl _) _ _ _ _ _ _⟩
      · have e0 : m ≠ 0 := by simpa using qm
        rw [if_pos e0] at hz
        obtain ⟨rfl, rfl⟩ := Prod.mk.inj hz
        clear hz
        go_wp2_with fail
        exact bodyPost_ret (read_results _ _ _ _ _ rfl (KbC.set6 HRs.out) rfl) rfl ⟨rfl, below_set6 HB4.out (Nat.le_refl _) _ _ _ _ _ _⟩
    · have e0 : q ≠ 0 := by simpa using q1
      rw [if_pos e0] at hz
      obtain ⟨rfl, rfl⟩ := Prod.mk.inj hz
      clear hz
      go_enter Tryz.func54, Tryz.ntmps54
      go_wp2_with fail
      refine (split_q s [i, x, a, b, c, d] 6 _ hs HM.out HL.out rfl).mono ?_
      rintro e w1 ⟨B, rfl, hge, hst, hb⟩
      have HR1 := Lib.hid (HR.out.step hb)
      obtain ⟨b7, off7, e7, _, hat⟩ := hst.at (by omega)
      cases e7
      have c1 := hat w1 (Below.refl _ _) 1 (by omega)
      clear hst hb hat
      go_wp2_with fail
      refine (un_q x u q _ hxs HU.out HQ.out).mono ?_
      rintro e w2 ⟨rfl, hb⟩
      have HR2 := Lib.hid (HR1.out.step hb)
      clear hb
      obtain ⟨g0, g1, g2, g3, g4, g5⟩ := kb_cells HR2.out.box
      have gf : ∀ j, w2.frozen? ⟨w.heap.size, j, none⟩ = false := fun j => HR2.out.box.frz
      go_wp2_with fail
      exact bodyPost_ret (read_results _ _ _ _ _ rfl (KbC.set6 HR2.out.box) rfl) rfl ⟨rfl, below_set6 HR2.out.low (Nat.le_refl _) _ _ _ _ _ _⟩
  · rw [rd_no (by rw [hl]; exact h6)] at hz
    obtain ⟨rfl, rfl⟩ := Prod.mk.inj hz
    have d1 : ((l.length : Int) != 6) = true := by rw [bne_iff_ne]; omega
    have d2 : ¬ (l.length : Int) = 6 := by omega
    clear hz hl
    go_enter Tryz.func54, Tryz.ntmps54
    go_wp2_with fail
    refine (split_q s l l.length _ hs HM.out HL.out rfl).mono ?_
    rintro e w1 ⟨B, rfl, hge, hst, hb⟩
    have HR1 := Lib.hid (HR.out.step hb)
    clear hst hb
    obtain ⟨g0, g1, g2, g3, g4, g5⟩ := kb_cells HR1.out.box
    have gf : ∀ j, w1.frozen? ⟨w.heap.size, j, none⟩ = false := fun j => HR1.out.box.frz
    go_wp2_with fail
    exact bodyPost_ret (read_results _ _ _ _ _ rfl (KbC.set6 HR1.out.box) rfl) rfl ⟨rfl, below_set6 HR1.out.low (Nat.le_refl _) _ _ _ _ _ _⟩
end Go.Proofs.YtgepcbggkfjlgaaGreatDoor
end

section
/-
  Contract of keys' Parse. Condition: at most 1000000 bytes; the tables of strconv and strings.
-/
set_option maxRecDepth 100000
set_option linter.unusedVariables false
set_option linter.unusedSimpArgs false
set_option linter.unnecessarySimpa false
namespace Go.Proofs.YtgepcbggkfjlgaaGreatDoor
open Go.RowKit Go.PlainAid

theorem kuns_size (s : ByteArray) : (unS s).size ≤ s.size := by
  unfold unS
  split
  · next m h =>
    have := unesc_le s.data.toList m h
    rw [← Lib.size_eq] at this
    exact this
  · exact Nat.zero_le _
theorem rd_sm {s : ByteArray} (hs : s.size ≤ 1000000) : SmK (rdK s).1 := by
  unfold rdK
  split
  · next i x a b c d e =>
    split
    · exact ⟨Nat.zero_le _, Nat.zero_le _⟩
    · split
      · exact ⟨Nat.zero_le _, Nat.zero_le _⟩
      · have h1 : i.size ≤ s.size := partsB_small (sep := 32) (by rw [e]; simp)
        have h2 : x.size ≤ s.size := partsB_small (sep := 32) (by rw [e]; simp)
        exact ⟨by show i.size ≤ _; omega, by show (unS x).size ≤ _; have := kuns_size x; omega⟩
  · exact ⟨Nat.zero_le _, Nat.zero_le _⟩
theorem cut_q (t b a : ByteArray) (o : Bool) (w : World) (ht : t.size ≤ 1000000000) (hm : MaxOk w) (hb : cutBef t ⟨#[10]⟩ = b) (ha : cutAft t ⟨#[10]⟩ = a) (ho : cutOk t ⟨#[10]⟩ = o) :
    Calls Tryz.prog 53 #[.string t, .string ⟨#[10]⟩] w fun e w' => e = .returned (.tuple #[.string b, .string a, .bool o]) ∧ Below w.heap.size w w' := by
  subst hb; subst ha; subst ho
  obtain ⟨m, hm⟩ := hm
  refine (Tryz.strings_Cut t ⟨#[10]⟩ m w (by omega) hm).mono fun e w' h => ⟨h.1, ?_⟩
  obtain ⟨n, rfl⟩ := h.2
  exact ⟨rfl, rfl, rfl, Nat.le_refl _, fun _ _ => rfl⟩
def szV : Value → Nat
  | .string r => r.size
  | _ => 0
theorem par_end {f : Nat} {r : ByteArray} {p : List Ky} {n : Int} (h : r.size = 0) : parG f r p n = (p, 0, 0) := by
  cases f with
  | zero => rfl
  | succ f => unfold parG; rw [if_pos h]
theorem par_no {f : Nat} {r : ByteArray} {p : List Ky} {n : Int} (h : r.size ≠ 0) (h2 : cutOk r ⟨#[10]⟩ = false) : parG (f + 1) r p n = ([], n, 4) := by unfold parG; rw [if_neg h, if_pos h2]
theorem par_bad {f : Nat} {r b : ByteArray} {p : List Ky} {n z : Int} {g : Ky} (h : r.size ≠ 0) (h2 : cutOk r ⟨#[10]⟩ = true) (hb : cutBef r ⟨#[10]⟩ = b) (hg : rdK b = (g, z)) (hz : z ≠ 0) : parG (f + 1) r p n = ([], n, z) := by
  unfold parG; rw [if_neg h, if_neg (by rw [h2]; decide), hb, hg, if_pos hz]
theorem par_chk {f : Nat} {r b : ByteArray} {p : List Ky} {n z : Int} {g : Ky} (h : r.size ≠ 0) (h2 : cutOk r ⟨#[10]⟩ = true) (hb : cutBef r ⟨#[10]⟩ = b) (hg : rdK b = (g, 0)) (hc : chkK (p ++ [g]) = z) (hz : z ≠ 0) : parG (f + 1) r p n = ([], n, z) := by
  unfold parG; rw [if_neg h, if_neg (by rw [h2]; decide), hb, hg, if_neg (fun h => h rfl), hc, if_pos hz]
theorem par_go {f : Nat} {r b a : ByteArray} {p : List Ky} {n : Int} {g : Ky} (h : r.size ≠ 0) (h2 : cutOk r ⟨#[10]⟩ = true) (hb : cutBef r ⟨#[10]⟩ = b) (ha : cutAft r ⟨#[10]⟩ = a) (hg : rdK b = (g, 0)) (hc : chkK (p ++ [g]) = 0) : parG (f + 1) r p n = parG f a (p ++ [g]) (n + 1) := by
  conv => lhs; unfold parG
  rw [if_neg h, if_neg (by rw [h2]; decide), hb, hg, if_neg (fun h => h rfl), hc, if_neg (fun h => h rfl), ha]
set_option maxHeartbeats 4000000 in
theorem parse_k (s : ByteArray) (L : List Ky) (i z : Int) (w : World) (hs : s.size ≤ 1000000) (ho : IntOk w) (hm : MaxOk w) (hmg : 0 < w.heap.size) (hz : parK s = (L, i, z)) :
    Calls Tryz.prog 28 #[.string s] w fun e w' => ∃ bo dap, e = .returned (.tuple #[.slice bo L.length dap, .int .i64 i, .int .i64 z]) ∧ KsAt w' bo L.length dap L ∧ Below w.heap.size w w' := by
  have HO := Lib.hid ho
  have HM := Lib.hid hm
  have HMg := Lib.hid hmg
  clear ho hm hmg
  unfold parK at hz
  by_cases d : 4096 < s.size
  · rw [if_pos d] at hz
    obtain ⟨rfl, h5⟩ := Prod.mk.inj hz
    obtain ⟨rfl, rfl⟩ := Prod.mk.inj h5
    have d1 : (4096 : Int) < (s.size : Int) := by omega
    go_enter Tryz.func28, Tryz.ntmps28
    go_wp2_with fail
    go_ret3
    exact ⟨none, 0, rfl, ks_nil _, Below.refl _ _⟩
  · rw [if_neg d] at hz
    have d1 : ¬ (4096 : Int) < (s.size : Int) := by omega
    have HZ := Lib.hid hz
    clear hz
    go_enter Tryz.func28, Tryz.ntmps28
    go_wp2_with fail
    go_loopw [0, 5, 6] (fun sv v nv wr => ∃ (r : ByteArray) (p : List Ky) (n f : Nat), sv = .string r ∧ nv = .int .i64 n ∧ n + r.size ≤ 5000 ∧ r.size ≤ f ∧ Hid (parG f r p n = (L, i, z)) ∧ Hid (chkK p = 0) ∧ Hid (∀ k ∈ p, SmK k) ∧ Hid (wr.ownsRow w.heap.size 31 6 v p.length (kcs p)) ∧ Hid (Below w.heap.size w wr)) (fun sv _ _ _ => szV sv)
    case atStart => exact ⟨s, [], 1, s.size, rfl, rfl, by omega, Nat.le_refl _, HZ, Lib.hid rfl, Lib.hid (fun k hk => by cases hk), Lib.hid (World.ownsRow_nil _ _ _ _), Lib.hid (Below.refl _ _)⟩
    case round =>
      obtain ⟨r, p, n, f, rfl, rfl, hn, hf, HP, HC, HSm, HW, HB⟩ := hrel
      have hpl : p.length ≤ 16 := (okK_of HC.out).len
      by_cases h0 : r.size = 0
      · have hr : r = ⟨#[]⟩ := id_nil (by rw [Lib.toList_data]; exact List.length_eq_zero_iff.1 (by rw [← Lib.size_eq]; exact h0))
        have hp := HP.out
        rw [par_end h0] at hp
        obtain ⟨rfl, h5⟩ := Prod.mk.inj hp
        obtain ⟨rfl, rfl⟩ := Prod.mk.inj h5
        subst hr
        have hne : (ByteArray.toList ⟨#[]⟩).isEmpty = true := by rw [Lib.toList_data]; rfl
        obtain ⟨bo, dap, e1, hat⟩ := ks_of_owns HW.out
        have HA := Lib.hid hat
        subst e1
        clear hat hp h5
        go_wp2_with fail
        go_ret3
        exact ⟨bo, dap, rfl, HA.out, HB.out⟩
      · have hne : ¬ r.toList = [] := fun e => h0 (by rw [id_nil e]; rfl)
        have hne2 : r.toList.isEmpty = false := by
          cases e : r.toList with
          | nil => exact absurd e hne
          | cons x y => rfl
        clear hne
        obtain ⟨f, rfl⟩ : ∃ g, f = g + 1 := ⟨f - 1, by omega⟩
        obtain ⟨b, hb⟩ : ∃ b, cutBef r ⟨#[10]⟩ = b := ⟨_, rfl⟩
        obtain ⟨a, ha⟩ : ∃ a, cutAft r ⟨#[10]⟩ = a := ⟨_, rfl⟩
        have HBf := Lib.hid hb
        have HAf := Lib.hid ha
        have HM1 := Lib.hid (HM.out.below HB.out HMg.out)
        have hrs : r.size ≤ 1000000000 := by omega
        cases ho : cutOk r ⟨#[10]⟩
        · have hp := HP.out
          rw [par_no h0 ho] at hp
          obtain ⟨rfl, h5⟩ := Prod.mk.inj hp
          obtain ⟨rfl, rfl⟩ := Prod.mk.inj h5
          have HOk := Lib.hid ho
          clear hp h5 ho hb ha
          go_wp2_with fail
          refine (cut_q r b a false _ hrs HM1.out HBf.out HAf.out HOk.out).mono ?_
          rintro e w2 ⟨rfl, hb⟩
          have HB2 := Lib.hid (HB.out.trans (hb.mono HB.out.size))
          clear hb
          go_wp2_with fail
          go_ret3
          exact ⟨none, 0, rfl, ks_nil _, HB2.out⟩
        · have hsz := aft_size ho
          rw [hb, ha] at hsz
          have HOk := Lib.hid ho
          obtain ⟨⟨g, q⟩, hg⟩ : ∃ x, rdK b = x := ⟨_, rfl⟩
          have HG := Lib.hid hg
          have hbs : b.size ≤ 1000000 := by omega
          have hgs : SmK g := by have := rd_sm hbs; rw [hg] at this; exact this
          have HSg := Lib.hid (show ∀ k ∈ p ++ [g], SmK k from fun k hk => by
            rcases List.mem_append.1 hk with h | h
            · exact HSm.out k h
            · rw [List.mem_singleton.1 h]; exact hgs)
          clear hgs
          cases qq : (q != 0)
          · have e0 : q = 0 := by simpa using qq
            subst e0
            obtain ⟨c, hc⟩ : ∃ c, chkK (p ++ [g]) = c := ⟨_, rfl⟩
            have HCk := Lib.hid hc
            cases qc : (c != 0)
            · have e0 : c = 0 := by simpa using qc
              subst e0
              have hp := HP.out
              rw [par_go h0 ho hb ha hg hc] at hp
              have HP1 := Lib.hid (show parG f a (p ++ [g]) ((n + 1 : Nat) : Int) = (L, i, z) from hp)
              clear hp ho hb ha hg hc qq qc
              go_wp2_with fail
              refine (cut_q r b a true _ hrs HM1.out HBf.out HAf.out HOk.out).mono ?_
              rintro e w2 ⟨rfl, hb⟩
              have HB2 := Lib.hid (HB.out.trans (hb.mono HB.out.size))
              have HW2 := Lib.hid (own_below HW.out hb)
              have HO2 := Lib.hid (HO.out.below HB2.out)
              have HM2 := Lib.hid (HM.out.below HB2.out HMg.out)
              have HMg2 := Lib.hid (Nat.lt_of_lt_of_le HMg.out HB2.out.size)
              clear hb
              go_wp2_with fail
              refine (readKey_k b g _ _ hbs HO2.out HM2.out HMg2.out HG.out).mono ?_
              rintro e w3 ⟨rfl, hb⟩
              have HB3 := Lib.hid (HB2.out.trans (hb.mono HB2.out.size))
              have HW3 := Lib.hid (own_below HW2.out hb)
              clear hb
              have hbA := box_below w3 (kB g)
              have hbB := hbA.trans ((box_below _ (kB g)).mono hbA.size)
              have HO4 := Lib.hid (own_below HW3.out hbB)
              have hk4 := ks_one (w3.alloc (kB g)) g
              rw [World.size_alloc] at hk4
              have HK4 := Lib.hid hk4
              have HB4 := Lib.hid (HB3.out.trans (hbB.mono HB3.out.size))
              dsimp only [kB, kcells] at HO4 HK4 HB4
              clear hbA hbB hk4
              unfold kV kcells
              go_wp2_with (at_builtin; refine app_ks _ HO4.out (.tmp 38) (.tmp 40) (some ⟨w3.heap.size + 1, 0, none⟩) 1 1 [g] ?_ ?_ ?_ ?_ ?_ ?_ ?_ ?_; exact rfl; exact rfl; exact rfl; exact rfl; exact HK4.out; omega; exact HB4.out.size; intro v5 w5 hown5 hb5)
              rw [← kcs_app] at hown5
              have hown6 : w5.ownsRow w.heap.size 31 6 v5 (p ++ [g]).length (kcs (p ++ [g])) := by rw [List.length_append]; exact hown5
              have HB5 := Lib.hid (HB4.out.trans hb5)
              have HW5 := Lib.hid hown6
              obtain ⟨bo, dap, e1, hat⟩ := ks_of_owns hown6
              subst e1
              have HA := Lib.hid hat
              clear hown5 hown6 hb5 hat
              go_wp2_with fail
              refine (check_k bo _ dap (p ++ [g]) _ _ HA.out HSg.out HCk.out).mono ?_
              rintro e w6 ⟨rfl, hb⟩
              have HB6 := Lib.hid (HB5.out.trans (hb.mono HB5.out.size))
              have HW6 := Lib.hid (own_below HW5.out hb)
              clear hb
              go_wp2_with fail
              go_roundw
              case rel => exact ⟨a, p ++ [g], n + 1, f, rfl, by go_num, by omega, by omega, HP1, HCk, HSg, Lib.hid (by have h := HW6.out; rw [show (p ++ [g]).length = p.length + 1 from List.length_append] at h ⊢; exact h), HB6⟩
              case measure => simp [szV]; omega
            · have e0 : c ≠ 0 := by simpa using qc
              have hp := HP.out
              rw [par_chk h0 ho hb hg hc e0] at hp
              obtain ⟨rfl, h5⟩ := Prod.mk.inj hp
              obtain ⟨rfl, rfl⟩ := Prod.mk.inj h5
              clear hp h5 ho hb ha hg hc qq
              go_wp2_with fail
              refine (cut_q r b a true _ hrs HM1.out HBf.out HAf.out HOk.out).mono ?_
              rintro e w2 ⟨rfl, hb⟩
              have HB2 := Lib.hid (HB.out.trans (hb.mono HB.out.size))
              have HW2 := Lib.hid (own_below HW.out hb)
              have HO2 := Lib.hid (HO.out.below HB2.out)
              have HM2 := Lib.hid (HM.out.below HB2.out HMg.out)
              have HMg2 := Lib.hid (Nat.lt_of_lt_of_le HMg.out HB2.out.size)
              clear hb
              go_wp2_with fail
              refine (readKey_k b g _ _ hbs HO2.out HM2.out HMg2.out HG.out).mono ?_
              rintro e w3 ⟨rfl, hb⟩
              have HB3 := Lib.hid (HB2.out.trans (hb.mono HB2.out.size))
              have HW3 := Lib.hid (own_below HW2.out hb)
              clear hb
              have hbA := box_below w3 (kB g)
              have hbB := hbA.trans ((box_below _ (kB g)).mono hbA.size)
              have HO4 := Lib.hid (own_below HW3.out hbB)
              have hk4 := ks_one (w3.alloc (kB g)) g
              rw [World.size_alloc] at hk4
              have HK4 := Lib.hid hk4
              have HB4 := Lib.hid (HB3.out.trans (hbB.mono HB3.out.size))
              dsimp only [kB, kcells] at HO4 HK4 HB4
              clear hbA hbB hk4
              unfold kV kcells
              go_wp2_with (at_builtin; refine app_ks _ HO4.out (.tmp 38) (.tmp 40) (some ⟨w3.heap.size + 1, 0, none⟩) 1 1 [g] ?_ ?_ ?_ ?_ ?_ ?_ ?_ ?_; exact rfl; exact rfl; exact rfl; exact rfl; exact HK4.out; omega; exact HB4.out.size; intro v5 w5 hown5 hb5)
              rw [← kcs_app] at hown5
              have hown6 : w5.ownsRow w.heap.size 31 6 v5 (p ++ [g]).length (kcs (p ++ [g])) := by rw [List.length_append]; exact hown5
              have HB5 := Lib.hid (HB4.out.trans hb5)
              have HW5 := Lib.hid hown6
              obtain ⟨bo, dap, e1, hat⟩ := ks_of_owns hown6
              subst e1
              have HA := Lib.hid hat
              clear hown5 hown6 hb5 hat
              go_wp2_with fail
              refine (check_k bo _ dap (p ++ [g]) _ _ HA.out HSg.out HCk.out).mono ?_
              rintro e w6 ⟨rfl, hb⟩
              have HB6 := Lib.hid (HB5.out.trans (hb.mono HB5.out.size))
              have HW6 := Lib.hid (own_below HW5.out hb)
              clear hb
              go_wp2_with fail
              go_ret3
              exact ⟨none, 0, rfl, ks_nil _, HB6.out⟩
          · have e0 : q ≠ 0 := by simpa using qq
            have hp := HP.out
            rw [par_bad h0 ho hb hg e0] at hp
            obtain ⟨rfl, h5⟩ := Prod.mk.inj hp
            obtain ⟨rfl, rfl⟩ := Prod.mk.inj h5
            clear hp h5 ho hb ha hg
            go_wp2_with fail
            refine (cut_q r b a true _ hrs HM1.out HBf.out HAf.out HOk.out).mono ?_
            rintro e w2 ⟨rfl, hb⟩
            have HB2 := Lib.hid (HB.out.trans (hb.mono HB.out.size))
            have HW2 := Lib.hid (own_below HW.out hb)
            have HO2 := Lib.hid (HO.out.below HB2.out)
            have HM2 := Lib.hid (HM.out.below HB2.out HMg.out)
            have HMg2 := Lib.hid (Nat.lt_of_lt_of_le HMg.out HB2.out.size)
            clear hb
            go_wp2_with fail
            refine (readKey_k b g _ _ hbs HO2.out HM2.out HMg2.out HG.out).mono ?_
            rintro e w3 ⟨rfl, hb⟩
            have HB3 := Lib.hid (HB2.out.trans (hb.mono HB2.out.size))
            have HW3 := Lib.hid (own_below HW2.out hb)
            clear hb
            unfold kV kcells
            go_wp2_with fail
            go_ret3
            exact ⟨none, 0, rfl, ks_nil _, HB3.out.trans ((box_below w3 _).mono HB3.out.size)⟩
end Go.Proofs.YtgepcbggkfjlgaaGreatDoor
end
