/-
  Texts of the schema layer and of those beneath it, joined: SchTxR. Conditions stand at each contract.
-/
import Derived.Test.YtmmdaegdkikkpaaGreatDoorP18
set_option linter.unusedVariables false
set_option linter.unusedSimpArgs false
set_option linter.unnecessarySimpa false

section
/-
  Contract of the specification's Text. No condition.
-/
set_option maxRecDepth 100000
namespace Go.Proofs.YtmmdaegdkikkpaaGreatDoor
open Go.RowKit Go.PlainAid
theorem app_list (a b : ByteArray) : (a ++ b).data.toList = a.data.toList ++ b.data.toList := by rw [ByteArray.data_append]; simp
theorem ty_add (o p : ByteArray) (x : Int) : (o ++ ⟨#[116, 121, 112, 101, 32]⟩ ++ p ++ ⟨#[32]⟩ ++ synW x ++ ⟨#[10]⟩).data.toList = o.data.toList ++ (typeLn ⟨p, x, false⟩).data.toList := by
  unfold typeLn joinB
  simp only [app_list, List.map_append, List.map_cons, List.map_nil, List.append_assoc, Bool.false_eq_true, if_false, List.append_nil]
  rw [Lib.join_cons]
  simp [Lib.joinTail, typeN]
theorem ty_add1 (o p : ByteArray) (x : Int) : (o ++ ⟨#[116, 121, 112, 101, 32]⟩ ++ p ++ ⟨#[32]⟩ ++ synW x ++ ⟨#[32, 115, 105, 110, 103, 108, 101]⟩ ++ ⟨#[10]⟩).data.toList = o.data.toList ++ (typeLn ⟨p, x, true⟩).data.toList := by
  unfold typeLn joinB
  simp only [app_list, if_true, List.map_append, List.map_cons, List.map_nil, List.append_assoc, List.cons_append, List.nil_append]
  rw [Lib.join_cons]
  simp [Lib.joinTail, typeN, singleN]
theorem cl_add (o p s a b : ByteArray) : (o ++ ⟨#[99, 108, 97, 115, 115, 32]⟩ ++ p ++ ⟨#[32]⟩ ++ s ++ ⟨#[32]⟩ ++ a ++ ⟨#[32]⟩ ++ b ++ ⟨#[10]⟩).data.toList = o.data.toList ++ (joinB 32 [classN, p, s, a, b] ++ ⟨#[10]⟩ : ByteArray).data.toList := by
  unfold joinB
  simp only [app_list, List.map_cons, List.map_nil, List.append_assoc]
  rw [Lib.join_cons]
  simp [Lib.joinTail, classN]
theorem tyL_snoc (l : List Ty) (k : Nat) (h : k < l.length) : tyL (l.take (k + 1)) = tyL (l.take k) ++ (typeLn (tyAt l k)).data.toList := by
  rw [ty_take l k h]; unfold tyL; rw [List.flatMap_append]; simp
theorem clL_snoc (l : List Cl) (k : Nat) (h : k < l.length) : clL (l.take (k + 1)) = clL (l.take k) ++ (classLn (clAt l k)).data.toList := by
  rw [cl_take l k h]; unfold clL; rw [List.flatMap_append]; simp
set_option maxHeartbeats 16000000 in
theorem text7_s (v : Value) (ts : List Ty) (cs : List Cl) (w : World) (h : SchV w v ts cs) :
    Calls Tryz.prog 16 #[v] w fun e w' => e = .returned (.tuple #[.string (txtV ts cs), .int .i64 (txtE ts cs)]) ∧ Below w.heap.size w w' := by
  obtain ⟨ao, n, cap, bo, m, dap, rfl, hT, hC, s1, s2⟩ := h
  have HI := Lib.hid (And.intro hT hC)
  have HCk := Lib.hid (rCheck7_s (.agg #[.slice ao n cap, .slice bo m dap]) ts cs _ (SchV.below ⟨ao, n, cap, bo, m, dap, rfl, hT, hC, s1, s2⟩ (below_al w (.cells #[.slice ao n cap, .slice bo m dap] 25))))
  have hnx := hT.2.2.1
  have hmx := hC.2.2.1
  have hnn := hT.2.1
  have hmm := hC.2.1
  unfold maxLen at hnx hmx
  have HTL := Lib.hid hT.1
  have HCL := Lib.hid hC.1
  clear hT hC s1 s2
  have HK0 := Lib.hid (fb_new w ao n cap bo m dap)
  obtain ⟨c, hc⟩ : ∃ x, chkS ts cs = x := ⟨_, rfl⟩
  rw [hc] at HCk
  have HC0 := Lib.hid hc
  clear hc
  go_enter Tryz.func16, Tryz.ntmps16
  obtain ⟨c0, c1⟩ := HK0.out.cells
  go_wp2_with fail
  refine HCk.out.mono ?_
  rintro e w1 ⟨rfl, hb⟩
  have HK1 := Lib.hid (HK0.out.step hb)
  clear c0 c1 hb HCk HK0
  by_cases z : c = 0
  · subst z
    have HOK := Lib.hid (okay_of HC0.out)
    have hn64 : n ≤ 64 := by rw [← HTL.out]; exact HOK.out.tn
    have hm32 : m ≤ 32 := by rw [← HCL.out]; exact HOK.out.cn
    have HS1 := Lib.hid (fun k => show (tyL (ts.take k)).length ≤ 64000 from by
      have h1 := tyL_len (l := ts.take k) (fun t ht => (HOK.out.ty t (List.mem_of_mem_take ht)).1)
      have h2 : (ts.take k).length ≤ 64 := by rw [List.length_take]; have := HOK.out.tn; omega
      omega)
    have HS2 := Lib.hid (fun k => show (clL (cs.take k)).length ≤ 960000 from by
      have h1 := clL_len (l := cs.take k) (fun t ht => HOK.out.cl t (List.mem_of_mem_take ht))
      have h2 : (cs.take k).length ≤ 32 := by rw [List.length_take]; have := HOK.out.cn; omega
      omega)
    go_wp2_with fail
    go_loopw [5, 6, 7] (fun so i s7 wr => ∃ (k : Nat) (o : ByteArray), k ≤ n ∧ i = .int .i64 k ∧ so = .string o ∧ Hid (o.data.toList = tyL (ts.take k)) ∧ Hid (FB w wr ao n cap bo m dap)) (fun _ i _ _ => n - (intOf i).toNat)
    case atStart => exact ⟨0, ⟨#[]⟩, Nat.zero_le _, rfl, rfl, Lib.hid (by rw [List.take_zero]; rfl), HK1⟩
    case round =>
      clear HK1
      obtain ⟨k, o, hk, rfl, rfl, HO, HKj⟩ := hrel
      obtain ⟨c0, c1⟩ := HKj.out.cells
      have hosz : o.size ≤ 64000 := by rw [Lib.size_eq, HO.out]; exact HS1.out k
      by_cases hlt : k < n
      · have d1 : decide ((k : Int) < (n : Int)) = true := decide_eq_true (by omega)
        have d0 : (0 : Int) ≤ (k : Int) := by omega
        have d3 : (k : Int) < (n : Int) := by omega
        obtain ⟨b, off, rfl, hbl, hs⟩ := (HI.out.1.below HKj.out.low).2.2.2 (by omega)
        have hy := hs k hlt
        clear hs
        have hjl : k < ts.length := by rw [HTL.out]; exact hlt
        obtain ⟨hpz, hx1, hx5⟩ := HOK.out.ty _ (ty_mem ts k hjl)
        have HSn := Lib.hid (tyL_snoc ts k hjl)
        obtain ⟨T, hT⟩ : ∃ x, tyAt ts k = x := ⟨_, rfl⟩
        rw [hT] at hy hpz hx1 hx5 HSn
        clear hT
        obtain ⟨p, x, sg⟩ := T
        obtain ⟨y0, y1, y2⟩ := hy
        dsimp only at y0 y1 y2 hpz hx1 hx5
        have hwz := synW_size x
        cases sg
        · go_wp2_with fail
          clear c0 c1 y0 y1 y2
          have HK7 : Hid (Kb (wr.alloc (.cells #[.string p, .int .i64 x, .bool false] 62)) wr.heap.size (.cells #[.string p, .int .i64 x, .bool false] 62)) := Lib.hid (kbl_new _ _)
          have HKn := Lib.hid (HKj.out.step (below_al wr (.cells #[.string p, .int .i64 x, .bool false] 62)))
          obtain ⟨b7, hb7⟩ : ∃ x, wr.heap.size = x := ⟨_, rfl⟩
          rw [hb7] at HK7 ⊢
          clear hb7
          generalize wr.alloc (.cells #[.string p, .int .i64 x, .bool false] 62) = W8 at HKn HK7 ⊢
          have HSt := Lib.hid (show ∀ V X : World, (FB w V (some ⟨b, off, none⟩) n cap bo m dap ∧ Kb V b7 (.cells #[.string p, .int .i64 x, .bool false] 62)) → Below V.heap.size V X → (fun V => V.cell? ⟨b7, 0, none⟩ = some (.string p) ∧ V.cell? ⟨b7, 1, none⟩ = some (.int .i64 x) ∧ V.cell? ⟨b7, 2, none⟩ = some (.bool false) ∧ Hid (FB w V (some ⟨b, off, none⟩) n cap bo m dap ∧ Kb V b7 (.cells #[.string p, .int .i64 x, .bool false] 62))) X from fun V X h hb => by
            have h1 := h.1.step hb
            have h2 := h.2.step hb
            exact ⟨h2.cell rfl, h2.cell rfl, h2.cell rfl, Lib.hid ⟨h1, h2⟩⟩)
          have S0 := HSt.out W8 _ ⟨HKn.out, HK7.out⟩ (Below.refl _ _).drew
          clear HKn HK7
          have zq0 : ¬ 9223372036854775807 < o.size + 5 := by omega
          have zq1 : ¬ 9223372036854775807 < o.size + 5 + p.size := by omega
          have zq2 : ¬ 9223372036854775807 < o.size + 5 + p.size + 1 := by omega
          have zq3 : ¬ 9223372036854775807 < o.size + 5 + p.size + 1 + (synW x).size := by omega
          refine wp_region_held_drew (S := fun V => V.cell? ⟨b7, 0, none⟩ = some (.string p) ∧ V.cell? ⟨b7, 1, none⟩ = some (.int .i64 x) ∧ V.cell? ⟨b7, 2, none⟩ = some (.bool false) ∧ Hid (FB w V (some ⟨b, off, none⟩) n cap bo m dap ∧ Kb V b7 (.cells #[.string p, .int .i64 x, .bool false] 62))) (by kernel_rfl) (S0) (fun hS => ?_)
          refine wpAnyH_take (i := 0) (oi := { dst := some 28, op := _, type := _, pos := _, after := _, guard := _ }) (v := ?_) rfl (by kernel_rfl) (by kernel_rfl) (by kernel_rfl) (fun _ _ _ h => h) (Or.inl ⟨by rfl, ?_⟩) (by assumption) ?_
          rotate_left
          · intro w hSw
            try dsimp only at hSw
            go_simp
            try with_reducible rfl
          try simp only [Act.put, List.setIfInBounds_toArray, List.set_cons_zero, List.set_cons_succ]
          refine wpAnyH_take (i := 1) (oi := { dst := some 29, op := _, type := _, pos := _, after := _, guard := _ }) (v := ?_) rfl (by kernel_rfl) (by kernel_rfl) (by kernel_rfl) (fun _ _ _ h => h) (Or.inl ⟨by rfl, ?_⟩) (by assumption) ?_
          rotate_left
          · intro w hSw
            try dsimp only at hSw
            go_simp
            try with_reducible rfl
          try simp only [Act.put, List.setIfInBounds_toArray, List.set_cons_zero, List.set_cons_succ]
          refine wpAnyH_take (i := 2) (oi := { dst := some 30, op := _, type := _, pos := _, after := _, guard := _ }) (v := ?_) rfl (by kernel_rfl) (by kernel_rfl) (by kernel_rfl) (fun _ _ _ h => h) (Or.inl ⟨by rfl, ?_⟩) (by assumption) ?_
          rotate_left
          · intro w hSw
            try dsimp only at hSw
            go_simp
            try with_reducible rfl
          try simp only [Act.put, List.setIfInBounds_toArray, List.set_cons_zero, List.set_cons_succ]
          refine wpAnyH_take (i := 3) (oi := { dst := some 31, op := _, type := _, pos := _, after := _, guard := _ }) (v := ?_) rfl (by kernel_rfl) (by kernel_rfl) (by kernel_rfl) (fun _ _ _ h => h) (Or.inl ⟨by rfl, ?_⟩) (by assumption) ?_
          rotate_left
          · intro w hSw
            try dsimp only at hSw
            go_simp
            try with_reducible rfl
          try simp only [Act.put, List.setIfInBounds_toArray, List.set_cons_zero, List.set_cons_succ]
          refine wpAnyH_take (i := 4) (oi := { dst := some 32, op := _, type := _, pos := _, after := _, guard := _ }) (v := ?_) rfl (by kernel_rfl) (by kernel_rfl) (by kernel_rfl) (fun _ _ _ h => h) (Or.inl ⟨by rfl, ?_⟩) (by assumption) ?_
          rotate_left
          · intro w hSw
            try dsimp only at hSw
            go_simp
            try with_reducible rfl
          try simp only [Act.put, List.setIfInBounds_toArray, List.set_cons_zero, List.set_cons_succ]
          refine wpAnyH_take (i := 5) (oi := { dst := some 33, op := _, type := _, pos := _, after := _, guard := _ }) (v := ?_) rfl (by kernel_rfl) (by kernel_rfl) (by kernel_rfl) (fun _ _ _ h => h) (Or.inl ⟨by rfl, ?_⟩) (by assumption) ?_
          rotate_left
          · intro w hSw
            try dsimp only at hSw
            go_simp
            try with_reducible rfl
          try simp only [Act.put, List.setIfInBounds_toArray, List.set_cons_zero, List.set_cons_succ]
          refine wpAnyH_take (i := 6) (oi := { dst := some 34, op := _, type := _, pos := _, after := _, guard := _ }) (v := ?_) rfl (by kernel_rfl) (by kernel_rfl) (by kernel_rfl) (fun _ _ _ h => h) (Or.inl ⟨by rfl, ?_⟩) (by assumption) ?_
          rotate_left
          · intro w hSw
            try dsimp only at hSw
            go_simp
            try with_reducible rfl
          try simp only [Act.put, List.setIfInBounds_toArray, List.set_cons_zero, List.set_cons_succ]
          refine wpAnyH_take (i := 7) (oi := { dst := some 35, op := _, type := _, pos := _, after := _, guard := _ }) (v := ?_) rfl (by kernel_rfl) (by kernel_rfl) (by kernel_rfl) (fun _ _ _ h => h) (Or.inl ⟨by rfl, ?_⟩) (by assumption) ?_
          rotate_left
          · intro w hSw
            try dsimp only at hSw
            go_simp
            try with_reducible rfl
          try simp only [Act.put, List.setIfInBounds_toArray, List.set_cons_zero, List.set_cons_succ]
          refine wpAnyH_ready (rs := [8]) (by kernel_rfl) (by simp) ?_
          refine AllReadyH.cons rfl (fun K hK => ?_) AllReadyH.nil
          go_simp
          refine (word7_s x _ hx1 hx5).mono ?_
          rintro e w5 ⟨rfl, hb⟩
          have HKp := hS.2.2.2.out
          go_wp2_with fail
          refine hK.out _ _ ?_ (fun hHeld => ?_)
          · exact HSt.out _ _ HKp hb
          clear hK K
          try simp only [Act.put, List.setIfInBounds_toArray, List.set_cons_zero, List.set_cons_succ]
          refine wpAnyH_take (i := 9) (oi := { dst := some 37, op := _, type := _, pos := _, after := _, guard := _ }) (v := ?_) rfl (by kernel_rfl) (by kernel_rfl) (by kernel_rfl) (fun _ _ _ h => h) (Or.inl ⟨by rfl, ?_⟩) (by assumption) ?_
          rotate_left
          · intro w hSw
            try dsimp only at hSw
            go_simp
            try with_reducible rfl
          try simp only [Act.put, List.setIfInBounds_toArray, List.set_cons_zero, List.set_cons_succ]
          refine wpAnyH_take (i := 10) (oi := { dst := some 5, op := _, type := _, pos := _, after := _, guard := _ }) (v := ?_) rfl (by kernel_rfl) (by kernel_rfl) (by kernel_rfl) (fun _ _ _ h => h) (Or.inl ⟨by rfl, ?_⟩) (by assumption) ?_
          rotate_left
          · intro w hSw
            try dsimp only at hSw
            go_simp
            try with_reducible rfl
          try simp only [Act.put, List.setIfInBounds_toArray, List.set_cons_zero, List.set_cons_succ]
          refine wpAnyH_done (by kernel_rfl) ?_ _
          obtain ⟨y0, y1, y2, HKy⟩ := hHeld
          go_wp2_with fail
          go_roundw
          case rel => exact ⟨k + 1, _, by omega, by go_num, rfl, Lib.hid (by rw [HSn.out, ← HO.out]; exact ty_add o p x), Lib.hid HKy.out.1⟩
          case measure => simp [intOf]; omega
        · go_wp2_with fail
          clear c0 c1 y0 y1 y2
          have HK7 : Hid (Kb (wr.alloc (.cells #[.string p, .int .i64 x, .bool true] 62)) wr.heap.size (.cells #[.string p, .int .i64 x, .bool true] 62)) := Lib.hid (kbl_new _ _)
          have HKn := Lib.hid (HKj.out.step (below_al wr (.cells #[.string p, .int .i64 x, .bool true] 62)))
          obtain ⟨b7, hb7⟩ : ∃ x, wr.heap.size = x := ⟨_, rfl⟩
          rw [hb7] at HK7 ⊢
          clear hb7
          generalize wr.alloc (.cells #[.string p, .int .i64 x, .bool true] 62) = W8 at HKn HK7 ⊢
          have HSt := Lib.hid (show ∀ V X : World, (FB w V (some ⟨b, off, none⟩) n cap bo m dap ∧ Kb V b7 (.cells #[.string p, .int .i64 x, .bool true] 62)) → Below V.heap.size V X → (fun V => V.cell? ⟨b7, 0, none⟩ = some (.string p) ∧ V.cell? ⟨b7, 1, none⟩ = some (.int .i64 x) ∧ V.cell? ⟨b7, 2, none⟩ = some (.bool true) ∧ Hid (FB w V (some ⟨b, off, none⟩) n cap bo m dap ∧ Kb V b7 (.cells #[.string p, .int .i64 x, .bool true] 62))) X from fun V X h hb => by
            have h1 := h.1.step hb
            have h2 := h.2.step hb
            exact ⟨h2.cell rfl, h2.cell rfl, h2.cell rfl, Lib.hid ⟨h1, h2⟩⟩)
          have S0 := HSt.out W8 _ ⟨HKn.out, HK7.out⟩ (Below.refl _ _).drew
          clear HKn HK7
          have zq0 : ¬ 9223372036854775807 < o.size + 5 := by omega
          have zq1 : ¬ 9223372036854775807 < o.size + 5 + p.size := by omega
          have zq2 : ¬ 9223372036854775807 < o.size + 5 + p.size + 1 := by omega
          have zq3 : ¬ 9223372036854775807 < o.size + 5 + p.size + 1 + (synW x).size := by omega
          refine wp_region_held_drew (S := fun V => V.cell? ⟨b7, 0, none⟩ = some (.string p) ∧ V.cell? ⟨b7, 1, none⟩ = some (.int .i64 x) ∧ V.cell? ⟨b7, 2, none⟩ = some (.bool true) ∧ Hid (FB w V (some ⟨b, off, none⟩) n cap bo m dap ∧ Kb V b7 (.cells #[.string p, .int .i64 x, .bool true] 62))) (by kernel_rfl) (S0) (fun hS => ?_)
          refine wpAnyH_take (i := 0) (oi := { dst := some 28, op := _, type := _, pos := _, after := _, guard := _ }) (v := ?_) rfl (by kernel_rfl) (by kernel_rfl) (by kernel_rfl) (fun _ _ _ h => h) (Or.inl ⟨by rfl, ?_⟩) (by assumption) ?_
          rotate_left
          · intro w hSw
            try dsimp only at hSw
            go_simp
            try with_reducible rfl
          try simp only [Act.put, List.setIfInBounds_toArray, List.set_cons_zero, List.set_cons_succ]
          refine wpAnyH_take (i := 1) (oi := { dst := some 29, op := _, type := _, pos := _, after := _, guard := _ }) (v := ?_) rfl (by kernel_rfl) (by kernel_rfl) (by kernel_rfl) (fun _ _ _ h => h) (Or.inl ⟨by rfl, ?_⟩) (by assumption) ?_
          rotate_left
          · intro w hSw
            try dsimp only at hSw
            go_simp
            try with_reducible rfl
          try simp only [Act.put, List.setIfInBounds_toArray, List.set_cons_zero, List.set_cons_succ]
          refine wpAnyH_take (i := 2) (oi := { dst := some 30, op := _, type := _, pos := _, after := _, guard := _ }) (v := ?_) rfl (by kernel_rfl) (by kernel_rfl) (by kernel_rfl) (fun _ _ _ h => h) (Or.inl ⟨by rfl, ?_⟩) (by assumption) ?_
          rotate_left
          · intro w hSw
            try dsimp only at hSw
            go_simp
            try with_reducible rfl
          try simp only [Act.put, List.setIfInBounds_toArray, List.set_cons_zero, List.set_cons_succ]
          refine wpAnyH_take (i := 3) (oi := { dst := some 31, op := _, type := _, pos := _, after := _, guard := _ }) (v := ?_) rfl (by kernel_rfl) (by kernel_rfl) (by kernel_rfl) (fun _ _ _ h => h) (Or.inl ⟨by rfl, ?_⟩) (by assumption) ?_
          rotate_left
          · intro w hSw
            try dsimp only at hSw
            go_simp
            try with_reducible rfl
          try simp only [Act.put, List.setIfInBounds_toArray, List.set_cons_zero, List.set_cons_succ]
          refine wpAnyH_take (i := 4) (oi := { dst := some 32, op := _, type := _, pos := _, after := _, guard := _ }) (v := ?_) rfl (by kernel_rfl) (by kernel_rfl) (by kernel_rfl) (fun _ _ _ h => h) (Or.inl ⟨by rfl, ?_⟩) (by assumption) ?_
          rotate_left
          · intro w hSw
            try dsimp only at hSw
            go_simp
            try with_reducible rfl
          try simp only [Act.put, List.setIfInBounds_toArray, List.set_cons_zero, List.set_cons_succ]
          refine wpAnyH_take (i := 5) (oi := { dst := some 33, op := _, type := _, pos := _, after := _, guard := _ }) (v := ?_) rfl (by kernel_rfl) (by kernel_rfl) (by kernel_rfl) (fun _ _ _ h => h) (Or.inl ⟨by rfl, ?_⟩) (by assumption) ?_
          rotate_left
          · intro w hSw
            try dsimp only at hSw
            go_simp
            try with_reducible rfl
          try simp only [Act.put, List.setIfInBounds_toArray, List.set_cons_zero, List.set_cons_succ]
          refine wpAnyH_take (i := 6) (oi := { dst := some 34, op := _, type := _, pos := _, after := _, guard := _ }) (v := ?_) rfl (by kernel_rfl) (by kernel_rfl) (by kernel_rfl) (fun _ _ _ h => h) (Or.inl ⟨by rfl, ?_⟩) (by assumption) ?_
          rotate_left
          · intro w hSw
            try dsimp only at hSw
            go_simp
            try with_reducible rfl
          try simp only [Act.put, List.setIfInBounds_toArray, List.set_cons_zero, List.set_cons_succ]
          refine wpAnyH_take (i := 7) (oi := { dst := some 35, op := _, type := _, pos := _, after := _, guard := _ }) (v := ?_) rfl (by kernel_rfl) (by kernel_rfl) (by kernel_rfl) (fun _ _ _ h => h) (Or.inl ⟨by rfl, ?_⟩) (by assumption) ?_
          rotate_left
          · intro w hSw
            try dsimp only at hSw
            go_simp
            try with_reducible rfl
          try simp only [Act.put, List.setIfInBounds_toArray, List.set_cons_zero, List.set_cons_succ]
          refine wpAnyH_ready (rs := [8]) (by kernel_rfl) (by simp) ?_
          refine AllReadyH.cons rfl (fun K hK => ?_) AllReadyH.nil
          go_simp
          refine (word7_s x _ hx1 hx5).mono ?_
          rintro e w5 ⟨rfl, hb⟩
          have HKp := hS.2.2.2.out
          go_wp2_with fail
          refine hK.out _ _ ?_ (fun hHeld => ?_)
          · exact HSt.out _ _ HKp hb
          clear hK K
          try simp only [Act.put, List.setIfInBounds_toArray, List.set_cons_zero, List.set_cons_succ]
          refine wpAnyH_take (i := 9) (oi := { dst := some 37, op := _, type := _, pos := _, after := _, guard := _ }) (v := ?_) rfl (by kernel_rfl) (by kernel_rfl) (by kernel_rfl) (fun _ _ _ h => h) (Or.inl ⟨by rfl, ?_⟩) (by assumption) ?_
          rotate_left
          · intro w hSw
            try dsimp only at hSw
            go_simp
            try with_reducible rfl
          try simp only [Act.put, List.setIfInBounds_toArray, List.set_cons_zero, List.set_cons_succ]
          refine wpAnyH_take (i := 10) (oi := { dst := some 5, op := _, type := _, pos := _, after := _, guard := _ }) (v := ?_) rfl (by kernel_rfl) (by kernel_rfl) (by kernel_rfl) (fun _ _ _ h => h) (Or.inl ⟨by rfl, ?_⟩) (by assumption) ?_
          rotate_left
          · intro w hSw
            try dsimp only at hSw
            go_simp
            try with_reducible rfl
          try simp only [Act.put, List.setIfInBounds_toArray, List.set_cons_zero, List.set_cons_succ]
          refine wpAnyH_done (by kernel_rfl) ?_ _
          obtain ⟨y0, y1, y2, HKy⟩ := hHeld
          go_wp2_with fail
          go_roundw
          case rel => exact ⟨k + 1, _, by omega, by go_num, rfl, Lib.hid (by rw [HSn.out, ← HO.out]; exact ty_add1 o p x), Lib.hid HKy.out.1⟩
          case measure => simp [intOf]; omega
      · obtain rfl : n = k := by omega
        have d1 : decide ((n : Int) < (n : Int)) = false := decide_eq_false (by omega)
        have HO1 := Lib.hid (show o.data.toList = tyL ts by have h := HO.out; rwa [List.take_of_length_le (by rw [HTL.out]; exact Nat.le_refl _)] at h)
        clear HO
        go_wp2_with fail
        clear c0 c1
        obtain ⟨o1, ho1⟩ : ∃ x : ByteArray, o = x := ⟨_, rfl⟩
        go_loopw [5, 8, 9, 10] (fun so i s9 s10 wr => ∃ (k : Nat) (o : ByteArray), k ≤ m ∧ i = .int .i64 k ∧ so = .string o ∧ Hid (o.data.toList = tyL ts ++ clL (cs.take k)) ∧ Hid (FB w wr ao n cap bo m dap)) (fun _ i _ _ _ => m - (intOf i).toNat)
        case atStart => exact ⟨0, o, Nat.zero_le _, rfl, rfl, Lib.hid (by rw [List.take_zero, HO1.out]; simp [clL]), HKj⟩
        case round =>
          clear HKj hosz ho1 o1 HO1
          obtain ⟨k, o, hk, rfl, rfl, HO, HKj⟩ := hrel
          obtain ⟨c0, c1⟩ := HKj.out.cells
          have hosz : o.size ≤ 1100000 := by
            rw [Lib.size_eq, HO.out, List.length_append]
            have h1 := HS1.out n
            rw [List.take_of_length_le (by rw [HTL.out]; exact Nat.le_refl _)] at h1
            have h2 := HS2.out k
            omega
          by_cases hlt : k < m
          · have d1 : decide ((k : Int) < (m : Int)) = true := decide_eq_true (by omega)
            have d0 : (0 : Int) ≤ (k : Int) := by omega
            have d3 : (k : Int) < (m : Int) := by omega
            obtain ⟨b, off, rfl, hbl, hs⟩ := (HI.out.2.below HKj.out.low).2.2.2 (by omega)
            have hy := hs k hlt
            clear hs
            have hjl : k < cs.length := by rw [HCL.out]; exact hlt
            obtain ⟨hpz, hsz, hl1, hl2, hz1, hz2⟩ := HOK.out.cl _ (cl_mem cs k hjl)
            have HSn := Lib.hid (clL_snoc cs k hjl)
            obtain ⟨C, hC⟩ : ∃ x, clAt cs k = x := ⟨_, rfl⟩
            rw [hC] at hy hpz hsz hl1 hl2 hz1 hz2 HSn
            clear hC
            obtain ⟨p, sup, mu, ma⟩ := C
            obtain ⟨y0, y1, ⟨a1, p1, q1, y2, hr1⟩, a2, p2, q2, y3, hr2⟩ := hy
            dsimp only at y0 y1 y2 y3 hr1 hr2 hpz hsz hl1 hl2 hz1 hz2
            have hw1 := listW_small hl1 hz1
            have hw2 := listW_small hl2 hz2
            have HRs := Lib.hid (And.intro (And.intro hr1 hr2) (And.intro (And.intro (show mu.length ≤ 1000 by omega) (show ma.length ≤ 1000 by omega)) (And.intro (show ∀ s ∈ mu, s.size ≤ 100000 from fun s hs => by have := hz1 s hs; omega) (show ∀ s ∈ ma, s.size ≤ 100000 from fun s hs => by have := hz2 s hs; omega))))
            clear hr1 hr2 hz1 hz2 hl1 hl2
            by_cases hz : sup = ⟨#[]⟩
            · have e1 := emp_true hz
              have HSW := Lib.hid (show superW sup = ⟨#[45]⟩ by unfold superW; rw [if_pos (by rw [hz]; rfl)]; rfl)
              clear hz
              go_wp2_with fail
              clear c0 c1 y0 y1 y2 y3
              have HK7 : Hid (Kb (wr.alloc (.cells #[.string p, .string sup, .slice a1 p1 q1, .slice a2 p2 q2] 64)) wr.heap.size (.cells #[.string p, .string sup, .slice a1 p1 q1, .slice a2 p2 q2] 64)) := Lib.hid (kbl_new _ _)
              have HKn := Lib.hid (HKj.out.step (below_al wr (.cells #[.string p, .string sup, .slice a1 p1 q1, .slice a2 p2 q2] 64)))
              have HR7 := Lib.hid (And.intro (HRs.out.1.1.below (below_al wr (.cells #[.string p, .string sup, .slice a1 p1 q1, .slice a2 p2 q2] 64))) (HRs.out.1.2.below (below_al wr (.cells #[.string p, .string sup, .slice a1 p1 q1, .slice a2 p2 q2] 64))))
              obtain ⟨b7, hb7⟩ : ∃ x, wr.heap.size = x := ⟨_, rfl⟩
              rw [hb7] at HK7 ⊢
              clear hb7
              generalize wr.alloc (.cells #[.string p, .string sup, .slice a1 p1 q1, .slice a2 p2 q2] 64) = W8 at HKn HK7 HR7 ⊢
              have HSt := Lib.hid (show ∀ V X : World, (FB w V ao n cap (some ⟨b, off, none⟩) m dap ∧ Kb V b7 (.cells #[.string p, .string sup, .slice a1 p1 q1, .slice a2 p2 q2] 64) ∧ StrsAt V a1 p1 q1 mu ∧ StrsAt V a2 p2 q2 ma) → Below V.heap.size V X → (fun V => V.cell? ⟨b7, 0, none⟩ = some (.string p) ∧ V.cell? ⟨b7, 2, none⟩ = some (.slice a1 p1 q1) ∧ V.cell? ⟨b7, 3, none⟩ = some (.slice a2 p2 q2) ∧ Hid (FB w V ao n cap (some ⟨b, off, none⟩) m dap ∧ Kb V b7 (.cells #[.string p, .string sup, .slice a1 p1 q1, .slice a2 p2 q2] 64) ∧ StrsAt V a1 p1 q1 mu ∧ StrsAt V a2 p2 q2 ma)) X from fun V X h hb => by
                have h1 := h.1.step hb
                have h2 := h.2.1.step hb
                exact ⟨h2.cell rfl, h2.cell rfl, h2.cell rfl, Lib.hid ⟨h1, h2, h.2.2.1.below hb, h.2.2.2.below hb⟩⟩)
              have S0 := HSt.out W8 W8.drew ⟨HKn.out, HK7.out, HR7.out.1, HR7.out.2⟩ (Below.refl _ _).drew
              clear HKn HK7 HR7
              have zq0 : ¬ 9223372036854775807 < o.size + 6 := by omega
              have zq1 : ¬ 9223372036854775807 < o.size + 6 + p.size := by omega
              have zq2 : ¬ 9223372036854775807 < o.size + 6 + p.size + 1 := by omega
              have zq3 : ¬ 9223372036854775807 < o.size + 6 + p.size + 1 + 1 := by omega
              have zq4 : ¬ 9223372036854775807 < o.size + 6 + p.size + 1 + 1 + 1 := by omega
              have zq5 : ¬ 9223372036854775807 < o.size + 6 + p.size + 1 + 1 + 1 + (listW mu).size := by omega
              have zq6 : ¬ 9223372036854775807 < o.size + 6 + p.size + 1 + 1 + 1 + (listW mu).size + 1 := by omega
              have zq7 : ¬ 9223372036854775807 < o.size + 6 + p.size + 1 + 1 + 1 + (listW mu).size + 1 + (listW ma).size := by omega
              have zq8 : ¬ 9223372036854775807 < o.size + 6 + p.size + 1 + 1 + 1 + (listW mu).size + 1 + (listW ma).size + 1 := by omega
              refine wp_region_held_drew (S := fun V => V.cell? ⟨b7, 0, none⟩ = some (.string p) ∧ V.cell? ⟨b7, 2, none⟩ = some (.slice a1 p1 q1) ∧ V.cell? ⟨b7, 3, none⟩ = some (.slice a2 p2 q2) ∧ Hid (FB w V ao n cap (some ⟨b, off, none⟩) m dap ∧ Kb V b7 (.cells #[.string p, .string sup, .slice a1 p1 q1, .slice a2 p2 q2] 64) ∧ StrsAt V a1 p1 q1 mu ∧ StrsAt V a2 p2 q2 ma)) (by kernel_rfl) (S0) (fun hS => ?_)
              refine wpAnyH_take (i := 0) (oi := { dst := some 61, op := _, type := _, pos := _, after := _, guard := _ }) (v := ?_) rfl (by kernel_rfl) (by kernel_rfl) (by kernel_rfl) (fun _ _ _ h => h) (Or.inl ⟨by rfl, ?_⟩) (by assumption) ?_
              rotate_left
              · intro w hSw
                try dsimp only at hSw
                go_simp
                try with_reducible rfl
              try simp only [Act.put, List.setIfInBounds_toArray, List.set_cons_zero, List.set_cons_succ]
              refine wpAnyH_take (i := 1) (oi := { dst := some 62, op := _, type := _, pos := _, after := _, guard := _ }) (v := ?_) rfl (by kernel_rfl) (by kernel_rfl) (by kernel_rfl) (fun _ _ _ h => h) (Or.inl ⟨by rfl, ?_⟩) (by assumption) ?_
              rotate_left
              · intro w hSw
                try dsimp only at hSw
                go_simp
                try with_reducible rfl
              try simp only [Act.put, List.setIfInBounds_toArray, List.set_cons_zero, List.set_cons_succ]
              refine wpAnyH_take (i := 2) (oi := { dst := some 63, op := _, type := _, pos := _, after := _, guard := _ }) (v := ?_) rfl (by kernel_rfl) (by kernel_rfl) (by kernel_rfl) (fun _ _ _ h => h) (Or.inl ⟨by rfl, ?_⟩) (by assumption) ?_
              rotate_left
              · intro w hSw
                try dsimp only at hSw
                go_simp
                try with_reducible rfl
              try simp only [Act.put, List.setIfInBounds_toArray, List.set_cons_zero, List.set_cons_succ]
              refine wpAnyH_take (i := 3) (oi := { dst := some 64, op := _, type := _, pos := _, after := _, guard := _ }) (v := ?_) rfl (by kernel_rfl) (by kernel_rfl) (by kernel_rfl) (fun _ _ _ h => h) (Or.inl ⟨by rfl, ?_⟩) (by assumption) ?_
              rotate_left
              · intro w hSw
                try dsimp only at hSw
                go_simp
                try with_reducible rfl
              try simp only [Act.put, List.setIfInBounds_toArray, List.set_cons_zero, List.set_cons_succ]
              refine wpAnyH_take (i := 4) (oi := { dst := some 65, op := _, type := _, pos := _, after := _, guard := _ }) (v := ?_) rfl (by kernel_rfl) (by kernel_rfl) (by kernel_rfl) (fun _ _ _ h => h) (Or.inl ⟨by rfl, ?_⟩) (by assumption) ?_
              rotate_left
              · intro w hSw
                try dsimp only at hSw
                go_simp
                try with_reducible rfl
              try simp only [Act.put, List.setIfInBounds_toArray, List.set_cons_zero, List.set_cons_succ]
              refine wpAnyH_take (i := 5) (oi := { dst := some 66, op := _, type := _, pos := _, after := _, guard := _ }) (v := ?_) rfl (by kernel_rfl) (by kernel_rfl) (by kernel_rfl) (fun _ _ _ h => h) (Or.inl ⟨by rfl, ?_⟩) (by assumption) ?_
              rotate_left
              · intro w hSw
                try dsimp only at hSw
                go_simp
                try with_reducible rfl
              try simp only [Act.put, List.setIfInBounds_toArray, List.set_cons_zero, List.set_cons_succ]
              refine wpAnyH_take (i := 6) (oi := { dst := some 67, op := _, type := _, pos := _, after := _, guard := _ }) (v := ?_) rfl (by kernel_rfl) (by kernel_rfl) (by kernel_rfl) (fun _ _ _ h => h) (Or.inl ⟨by rfl, ?_⟩) (by assumption) ?_
              rotate_left
              · intro w hSw
                try dsimp only at hSw
                go_simp
                try with_reducible rfl
              try simp only [Act.put, List.setIfInBounds_toArray, List.set_cons_zero, List.set_cons_succ]
              refine wpAnyH_take (i := 7) (oi := { dst := some 68, op := _, type := _, pos := _, after := _, guard := _ }) (v := ?_) rfl (by kernel_rfl) (by kernel_rfl) (by kernel_rfl) (fun _ _ _ h => h) (Or.inl ⟨by rfl, ?_⟩) (by assumption) ?_
              rotate_left
              · intro w hSw
                try dsimp only at hSw
                go_simp
                try with_reducible rfl
              try simp only [Act.put, List.setIfInBounds_toArray, List.set_cons_zero, List.set_cons_succ]
              refine wpAnyH_take (i := 8) (oi := { dst := some 69, op := _, type := _, pos := _, after := _, guard := _ }) (v := ?_) rfl (by kernel_rfl) (by kernel_rfl) (by kernel_rfl) (fun _ _ _ h => h) (Or.inl ⟨by rfl, ?_⟩) (by assumption) ?_
              rotate_left
              · intro w hSw
                try dsimp only at hSw
                go_simp
                try with_reducible rfl
              try simp only [Act.put, List.setIfInBounds_toArray, List.set_cons_zero, List.set_cons_succ]
              refine wpAnyH_take (i := 9) (oi := { dst := some 70, op := _, type := _, pos := _, after := _, guard := _ }) (v := ?_) rfl (by kernel_rfl) (by kernel_rfl) (by kernel_rfl) (fun _ _ _ h => h) (Or.inl ⟨by rfl, ?_⟩) (by assumption) ?_
              rotate_left
              · intro w hSw
                try dsimp only at hSw
                go_simp
                try with_reducible rfl
              try simp only [Act.put, List.setIfInBounds_toArray, List.set_cons_zero, List.set_cons_succ]
              refine wpAnyH_take (i := 10) (oi := { dst := some 71, op := _, type := _, pos := _, after := _, guard := _ }) (v := ?_) rfl (by kernel_rfl) (by kernel_rfl) (by kernel_rfl) (fun _ _ _ h => h) (Or.inl ⟨by rfl, ?_⟩) (by assumption) ?_
              rotate_left
              · intro w hSw
                try dsimp only at hSw
                go_simp
                try with_reducible rfl
              try simp only [Act.put, List.setIfInBounds_toArray, List.set_cons_zero, List.set_cons_succ]
              refine wpAnyH_take (i := 14) (oi := { dst := some 75, op := _, type := _, pos := _, after := _, guard := _ }) (v := ?_) rfl (by kernel_rfl) (by kernel_rfl) (by kernel_rfl) (fun _ _ _ h => h) (Or.inl ⟨by rfl, ?_⟩) (by assumption) ?_
              rotate_left
              · intro w hSw
                try dsimp only at hSw
                go_simp
                try with_reducible rfl
              try simp only [Act.put, List.setIfInBounds_toArray, List.set_cons_zero, List.set_cons_succ]
              refine wpAnyH_take (i := 15) (oi := { dst := some 76, op := _, type := _, pos := _, after := _, guard := _ }) (v := ?_) rfl (by kernel_rfl) (by kernel_rfl) (by kernel_rfl) (fun _ _ _ h => h) (Or.inl ⟨by rfl, ?_⟩) (by assumption) ?_
              rotate_left
              · intro w hSw
                try dsimp only at hSw
                go_simp
                try with_reducible rfl
              try simp only [Act.put, List.setIfInBounds_toArray, List.set_cons_zero, List.set_cons_succ]
              refine wpAnyH_ready (rs := [11]) (by kernel_rfl) (by simp) ?_
              refine AllReadyH.cons rfl (fun K hK => ?_) AllReadyH.nil
              go_simp
              have HKo := hS.2.2.2.out
              refine (list7_s a1 p1 q1 mu _ HKo.2.2.1 HRs.out.2.1.1 HRs.out.2.2.1).mono ?_
              rintro e w5 ⟨rfl, hb⟩
              have HKp := Lib.hid hS.2.2.2.out
              go_wp2_with fail
              refine hK.out _ _ ?_ (fun hHeld => ?_)
              · exact HSt.out _ _ HKp.out hb
              clear hK K
              try simp only [Act.put, List.setIfInBounds_toArray, List.set_cons_zero, List.set_cons_succ]
              refine wpAnyH_take (i := 12) (oi := { dst := some 73, op := _, type := _, pos := _, after := _, guard := _ }) (v := ?_) rfl (by kernel_rfl) (by kernel_rfl) (by kernel_rfl) (fun _ _ _ h => h) (Or.inl ⟨by rfl, ?_⟩) (by assumption) ?_
              rotate_left
              · intro w hSw
                try dsimp only at hSw
                go_simp
                try with_reducible rfl
              try simp only [Act.put, List.setIfInBounds_toArray, List.set_cons_zero, List.set_cons_succ]
              refine wpAnyH_take (i := 13) (oi := { dst := some 74, op := _, type := _, pos := _, after := _, guard := _ }) (v := ?_) rfl (by kernel_rfl) (by kernel_rfl) (by kernel_rfl) (fun _ _ _ h => h) (Or.inl ⟨by rfl, ?_⟩) (by assumption) ?_
              rotate_left
              · intro w hSw
                try dsimp only at hSw
                go_simp
                try with_reducible rfl
              try simp only [Act.put, List.setIfInBounds_toArray, List.set_cons_zero, List.set_cons_succ]
              refine wpAnyH_ready (rs := [16]) (by kernel_rfl) (by simp) ?_
              refine AllReadyH.cons rfl (fun K hK => ?_) AllReadyH.nil
              go_simp
              have HKo := hHeld.2.2.2.out
              refine (list7_s a2 p2 q2 ma _ HKo.2.2.2 HRs.out.2.1.2 HRs.out.2.2.2).mono ?_
              rintro e w6 ⟨rfl, hb⟩
              have HKp := Lib.hid hHeld.2.2.2.out
              go_wp2_with fail
              refine hK.out _ _ ?_ (fun hHeld => ?_)
              · exact HSt.out _ _ HKp.out hb
              clear hK K
              try simp only [Act.put, List.setIfInBounds_toArray, List.set_cons_zero, List.set_cons_succ]
              refine wpAnyH_take (i := 17) (oi := { dst := some 78, op := _, type := _, pos := _, after := _, guard := _ }) (v := ?_) rfl (by kernel_rfl) (by kernel_rfl) (by kernel_rfl) (fun _ _ _ h => h) (Or.inl ⟨by rfl, ?_⟩) (by assumption) ?_
              rotate_left
              · intro w hSw
                try dsimp only at hSw
                go_simp
                try with_reducible rfl
              try simp only [Act.put, List.setIfInBounds_toArray, List.set_cons_zero, List.set_cons_succ]
              refine wpAnyH_take (i := 18) (oi := { dst := some 79, op := _, type := _, pos := _, after := _, guard := _ }) (v := ?_) rfl (by kernel_rfl) (by kernel_rfl) (by kernel_rfl) (fun _ _ _ h => h) (Or.inl ⟨by rfl, ?_⟩) (by assumption) ?_
              rotate_left
              · intro w hSw
                try dsimp only at hSw
                go_simp
                try with_reducible rfl
              try simp only [Act.put, List.setIfInBounds_toArray, List.set_cons_zero, List.set_cons_succ]
              refine wpAnyH_take (i := 19) (oi := { dst := some 5, op := _, type := _, pos := _, after := _, guard := _ }) (v := ?_) rfl (by kernel_rfl) (by kernel_rfl) (by kernel_rfl) (fun _ _ _ h => h) (Or.inl ⟨by rfl, ?_⟩) (by assumption) ?_
              rotate_left
              · intro w hSw
                try dsimp only at hSw
                go_simp
                try with_reducible rfl
              try simp only [Act.put, List.setIfInBounds_toArray, List.set_cons_zero, List.set_cons_succ]
              refine wpAnyH_done (by kernel_rfl) ?_ _
              obtain ⟨_, _, _, HKy⟩ := hHeld
              go_wp2_with fail
              go_roundw
              case rel => exact ⟨k + 1, _, by omega, by go_num, rfl, Lib.hid (by rw [HSn.out, ← List.append_assoc, ← HO.out]; unfold classLn; dsimp only; rw [HSW.out]; exact cl_add o p ⟨#[45]⟩ _ _), Lib.hid HKy.out.1⟩
              case measure => simp [intOf]; omega
            · have e1 := emp_false hz
              have HSW := Lib.hid (show superW sup = sup by unfold superW; rw [if_neg (by exact fun h => hz (lowS_empty h))])
              clear hz
              go_wp2_with fail
              clear c0 c1 y0 y1 y2 y3
              have HK7 : Hid (Kb (wr.alloc (.cells #[.string p, .string sup, .slice a1 p1 q1, .slice a2 p2 q2] 64)) wr.heap.size (.cells #[.string p, .string sup, .slice a1 p1 q1, .slice a2 p2 q2] 64)) := Lib.hid (kbl_new _ _)
              have HKn := Lib.hid (HKj.out.step (below_al wr (.cells #[.string p, .string sup, .slice a1 p1 q1, .slice a2 p2 q2] 64)))
              have HR7 := Lib.hid (And.intro (HRs.out.1.1.below (below_al wr (.cells #[.string p, .string sup, .slice a1 p1 q1, .slice a2 p2 q2] 64))) (HRs.out.1.2.below (below_al wr (.cells #[.string p, .string sup, .slice a1 p1 q1, .slice a2 p2 q2] 64))))
              obtain ⟨b7, hb7⟩ : ∃ x, wr.heap.size = x := ⟨_, rfl⟩
              rw [hb7] at HK7 ⊢
              clear hb7
              generalize wr.alloc (.cells #[.string p, .string sup, .slice a1 p1 q1, .slice a2 p2 q2] 64) = W8 at HKn HK7 HR7 ⊢
              have HSt := Lib.hid (show ∀ V X : World, (FB w V ao n cap (some ⟨b, off, none⟩) m dap ∧ Kb V b7 (.cells #[.string p, .string sup, .slice a1 p1 q1, .slice a2 p2 q2] 64) ∧ StrsAt V a1 p1 q1 mu ∧ StrsAt V a2 p2 q2 ma) → Below V.heap.size V X → (fun V => V.cell? ⟨b7, 0, none⟩ = some (.string p) ∧ V.cell? ⟨b7, 2, none⟩ = some (.slice a1 p1 q1) ∧ V.cell? ⟨b7, 3, none⟩ = some (.slice a2 p2 q2) ∧ Hid (FB w V ao n cap (some ⟨b, off, none⟩) m dap ∧ Kb V b7 (.cells #[.string p, .string sup, .slice a1 p1 q1, .slice a2 p2 q2] 64) ∧ StrsAt V a1 p1 q1 mu ∧ StrsAt V a2 p2 q2 ma)) X from fun V X h hb => by
                have h1 := h.1.step hb
                have h2 := h.2.1.step hb
                exact ⟨h2.cell rfl, h2.cell rfl, h2.cell rfl, Lib.hid ⟨h1, h2, h.2.2.1.below hb, h.2.2.2.below hb⟩⟩)
              have S0 := HSt.out W8 W8.drew ⟨HKn.out, HK7.out, HR7.out.1, HR7.out.2⟩ (Below.refl _ _).drew
              clear HKn HK7 HR7
              have zq0 : ¬ 9223372036854775807 < o.size + 6 := by omega
              have zq1 : ¬ 9223372036854775807 < o.size + 6 + p.size := by omega
              have zq2 : ¬ 9223372036854775807 < o.size + 6 + p.size + 1 := by omega
              have zq3 : ¬ 9223372036854775807 < o.size + 6 + p.size + 1 + sup.size := by omega
              have zq4 : ¬ 9223372036854775807 < o.size + 6 + p.size + 1 + sup.size + 1 := by omega
              have zq5 : ¬ 9223372036854775807 < o.size + 6 + p.size + 1 + sup.size + 1 + (listW mu).size := by omega
              have zq6 : ¬ 9223372036854775807 < o.size + 6 + p.size + 1 + sup.size + 1 + (listW mu).size + 1 := by omega
              have zq7 : ¬ 9223372036854775807 < o.size + 6 + p.size + 1 + sup.size + 1 + (listW mu).size + 1 + (listW ma).size := by omega
              have zq8 : ¬ 9223372036854775807 < o.size + 6 + p.size + 1 + sup.size + 1 + (listW mu).size + 1 + (listW ma).size + 1 := by omega
              refine wp_region_held_drew (S := fun V => V.cell? ⟨b7, 0, none⟩ = some (.string p) ∧ V.cell? ⟨b7, 2, none⟩ = some (.slice a1 p1 q1) ∧ V.cell? ⟨b7, 3, none⟩ = some (.slice a2 p2 q2) ∧ Hid (FB w V ao n cap (some ⟨b, off, none⟩) m dap ∧ Kb V b7 (.cells #[.string p, .string sup, .slice a1 p1 q1, .slice a2 p2 q2] 64) ∧ StrsAt V a1 p1 q1 mu ∧ StrsAt V a2 p2 q2 ma)) (by kernel_rfl) (S0) (fun hS => ?_)
              refine wpAnyH_take (i := 0) (oi := { dst := some 61, op := _, type := _, pos := _, after := _, guard := _ }) (v := ?_) rfl (by kernel_rfl) (by kernel_rfl) (by kernel_rfl) (fun _ _ _ h => h) (Or.inl ⟨by rfl, ?_⟩) (by assumption) ?_
              rotate_left
              · intro w hSw
                try dsimp only at hSw
                go_simp
                try with_reducible rfl
              try simp only [Act.put, List.setIfInBounds_toArray, List.set_cons_zero, List.set_cons_succ]
              refine wpAnyH_take (i := 1) (oi := { dst := some 62, op := _, type := _, pos := _, after := _, guard := _ }) (v := ?_) rfl (by kernel_rfl) (by kernel_rfl) (by kernel_rfl) (fun _ _ _ h => h) (Or.inl ⟨by rfl, ?_⟩) (by assumption) ?_
              rotate_left
              · intro w hSw
                try dsimp only at hSw
                go_simp
                try with_reducible rfl
              try simp only [Act.put, List.setIfInBounds_toArray, List.set_cons_zero, List.set_cons_succ]
              refine wpAnyH_take (i := 2) (oi := { dst := some 63, op := _, type := _, pos := _, after := _, guard := _ }) (v := ?_) rfl (by kernel_rfl) (by kernel_rfl) (by kernel_rfl) (fun _ _ _ h => h) (Or.inl ⟨by rfl, ?_⟩) (by assumption) ?_
              rotate_left
              · intro w hSw
                try dsimp only at hSw
                go_simp
                try with_reducible rfl
              try simp only [Act.put, List.setIfInBounds_toArray, List.set_cons_zero, List.set_cons_succ]
              refine wpAnyH_take (i := 3) (oi := { dst := some 64, op := _, type := _, pos := _, after := _, guard := _ }) (v := ?_) rfl (by kernel_rfl) (by kernel_rfl) (by kernel_rfl) (fun _ _ _ h => h) (Or.inl ⟨by rfl, ?_⟩) (by assumption) ?_
              rotate_left
              · intro w hSw
                try dsimp only at hSw
                go_simp
                try with_reducible rfl
              try simp only [Act.put, List.setIfInBounds_toArray, List.set_cons_zero, List.set_cons_succ]
              refine wpAnyH_take (i := 4) (oi := { dst := some 65, op := _, type := _, pos := _, after := _, guard := _ }) (v := ?_) rfl (by kernel_rfl) (by kernel_rfl) (by kernel_rfl) (fun _ _ _ h => h) (Or.inl ⟨by rfl, ?_⟩) (by assumption) ?_
              rotate_left
              · intro w hSw
                try dsimp only at hSw
                go_simp
                try with_reducible rfl
              try simp only [Act.put, List.setIfInBounds_toArray, List.set_cons_zero, List.set_cons_succ]
              refine wpAnyH_take (i := 5) (oi := { dst := some 66, op := _, type := _, pos := _, after := _, guard := _ }) (v := ?_) rfl (by kernel_rfl) (by kernel_rfl) (by kernel_rfl) (fun _ _ _ h => h) (Or.inl ⟨by rfl, ?_⟩) (by assumption) ?_
              rotate_left
              · intro w hSw
                try dsimp only at hSw
                go_simp
                try with_reducible rfl
              try simp only [Act.put, List.setIfInBounds_toArray, List.set_cons_zero, List.set_cons_succ]
              refine wpAnyH_take (i := 6) (oi := { dst := some 67, op := _, type := _, pos := _, after := _, guard := _ }) (v := ?_) rfl (by kernel_rfl) (by kernel_rfl) (by kernel_rfl) (fun _ _ _ h => h) (Or.inl ⟨by rfl, ?_⟩) (by assumption) ?_
              rotate_left
              · intro w hSw
                try dsimp only at hSw
                go_simp
                try with_reducible rfl
              try simp only [Act.put, List.setIfInBounds_toArray, List.set_cons_zero, List.set_cons_succ]
              refine wpAnyH_take (i := 7) (oi := { dst := some 68, op := _, type := _, pos := _, after := _, guard := _ }) (v := ?_) rfl (by kernel_rfl) (by kernel_rfl) (by kernel_rfl) (fun _ _ _ h => h) (Or.inl ⟨by rfl, ?_⟩) (by assumption) ?_
              rotate_left
              · intro w hSw
                try dsimp only at hSw
                go_simp
                try with_reducible rfl
              try simp only [Act.put, List.setIfInBounds_toArray, List.set_cons_zero, List.set_cons_succ]
              refine wpAnyH_take (i := 8) (oi := { dst := some 69, op := _, type := _, pos := _, after := _, guard := _ }) (v := ?_) rfl (by kernel_rfl) (by kernel_rfl) (by kernel_rfl) (fun _ _ _ h => h) (Or.inl ⟨by rfl, ?_⟩) (by assumption) ?_
              rotate_left
              · intro w hSw
                try dsimp only at hSw
                go_simp
                try with_reducible rfl
              try simp only [Act.put, List.setIfInBounds_toArray, List.set_cons_zero, List.set_cons_succ]
              refine wpAnyH_take (i := 9) (oi := { dst := some 70, op := _, type := _, pos := _, after := _, guard := _ }) (v := ?_) rfl (by kernel_rfl) (by kernel_rfl) (by kernel_rfl) (fun _ _ _ h => h) (Or.inl ⟨by rfl, ?_⟩) (by assumption) ?_
              rotate_left
              · intro w hSw
                try dsimp only at hSw
                go_simp
                try with_reducible rfl
              try simp only [Act.put, List.setIfInBounds_toArray, List.set_cons_zero, List.set_cons_succ]
              refine wpAnyH_take (i := 10) (oi := { dst := some 71, op := _, type := _, pos := _, after := _, guard := _ }) (v := ?_) rfl (by kernel_rfl) (by kernel_rfl) (by kernel_rfl) (fun _ _ _ h => h) (Or.inl ⟨by rfl, ?_⟩) (by assumption) ?_
              rotate_left
              · intro w hSw
                try dsimp only at hSw
                go_simp
                try with_reducible rfl
              try simp only [Act.put, List.setIfInBounds_toArray, List.set_cons_zero, List.set_cons_succ]
              refine wpAnyH_take (i := 14) (oi := { dst := some 75, op := _, type := _, pos := _, after := _, guard := _ }) (v := ?_) rfl (by kernel_rfl) (by kernel_rfl) (by kernel_rfl) (fun _ _ _ h => h) (Or.inl ⟨by rfl, ?_⟩) (by assumption) ?_
              rotate_left
              · intro w hSw
                try dsimp only at hSw
                go_simp
                try with_reducible rfl
              try simp only [Act.put, List.setIfInBounds_toArray, List.set_cons_zero, List.set_cons_succ]
              refine wpAnyH_take (i := 15) (oi := { dst := some 76, op := _, type := _, pos := _, after := _, guard := _ }) (v := ?_) rfl (by kernel_rfl) (by kernel_rfl) (by kernel_rfl) (fun _ _ _ h => h) (Or.inl ⟨by rfl, ?_⟩) (by assumption) ?_
              rotate_left
              · intro w hSw
                try dsimp only at hSw
                go_simp
                try with_reducible rfl
              try simp only [Act.put, List.setIfInBounds_toArray, List.set_cons_zero, List.set_cons_succ]
              refine wpAnyH_ready (rs := [11]) (by kernel_rfl) (by simp) ?_
              refine AllReadyH.cons rfl (fun K hK => ?_) AllReadyH.nil
              go_simp
              have HKo := hS.2.2.2.out
              refine (list7_s a1 p1 q1 mu _ HKo.2.2.1 HRs.out.2.1.1 HRs.out.2.2.1).mono ?_
              rintro e w5 ⟨rfl, hb⟩
              have HKp := Lib.hid hS.2.2.2.out
              go_wp2_with fail
              refine hK.out _ _ ?_ (fun hHeld => ?_)
              · exact HSt.out _ _ HKp.out hb
              clear hK K
              try simp only [Act.put, List.setIfInBounds_toArray, List.set_cons_zero, List.set_cons_succ]
              refine wpAnyH_take (i := 12) (oi := { dst := some 73, op := _, type := _, pos := _, after := _, guard := _ }) (v := ?_) rfl (by kernel_rfl) (by kernel_rfl) (by kernel_rfl) (fun _ _ _ h => h) (Or.inl ⟨by rfl, ?_⟩) (by assumption) ?_
              rotate_left
              · intro w hSw
                try dsimp only at hSw
                go_simp
                try with_reducible rfl
              try simp only [Act.put, List.setIfInBounds_toArray, List.set_cons_zero, List.set_cons_succ]
              refine wpAnyH_take (i := 13) (oi := { dst := some 74, op := _, type := _, pos := _, after := _, guard := _ }) (v := ?_) rfl (by kernel_rfl) (by kernel_rfl) (by kernel_rfl) (fun _ _ _ h => h) (Or.inl ⟨by rfl, ?_⟩) (by assumption) ?_
              rotate_left
              · intro w hSw
                try dsimp only at hSw
                go_simp
                try with_reducible rfl
              try simp only [Act.put, List.setIfInBounds_toArray, List.set_cons_zero, List.set_cons_succ]
              refine wpAnyH_ready (rs := [16]) (by kernel_rfl) (by simp) ?_
              refine AllReadyH.cons rfl (fun K hK => ?_) AllReadyH.nil
              go_simp
              have HKo := hHeld.2.2.2.out
              refine (list7_s a2 p2 q2 ma _ HKo.2.2.2 HRs.out.2.1.2 HRs.out.2.2.2).mono ?_
              rintro e w6 ⟨rfl, hb⟩
              have HKp := Lib.hid hHeld.2.2.2.out
              go_wp2_with fail
              refine hK.out _ _ ?_ (fun hHeld => ?_)
              · exact HSt.out _ _ HKp.out hb
              clear hK K
              try simp only [Act.put, List.setIfInBounds_toArray, List.set_cons_zero, List.set_cons_succ]
              refine wpAnyH_take (i := 17) (oi := { dst := some 78, op := _, type := _, pos := _, after := _, guard := _ }) (v := ?_) rfl (by kernel_rfl) (by kernel_rfl) (by kernel_rfl) (fun _ _ _ h => h) (Or.inl ⟨by rfl, ?_⟩) (by assumption) ?_
              rotate_left
              · intro w hSw
                try dsimp only at hSw
                go_simp
                try with_reducible rfl
              try simp only [Act.put, List.setIfInBounds_toArray, List.set_cons_zero, List.set_cons_succ]
              refine wpAnyH_take (i := 18) (oi := { dst := some 79, op := _, type := _, pos := _, after := _, guard := _ }) (v := ?_) rfl (by kernel_rfl) (by kernel_rfl) (by kernel_rfl) (fun _ _ _ h => h) (Or.inl ⟨by rfl, ?_⟩) (by assumption) ?_
              rotate_left
              · intro w hSw
                try dsimp only at hSw
                go_simp
                try with_reducible rfl
              try simp only [Act.put, List.setIfInBounds_toArray, List.set_cons_zero, List.set_cons_succ]
              refine wpAnyH_take (i := 19) (oi := { dst := some 5, op := _, type := _, pos := _, after := _, guard := _ }) (v := ?_) rfl (by kernel_rfl) (by kernel_rfl) (by kernel_rfl) (fun _ _ _ h => h) (Or.inl ⟨by rfl, ?_⟩) (by assumption) ?_
              rotate_left
              · intro w hSw
                try dsimp only at hSw
                go_simp
                try with_reducible rfl
              try simp only [Act.put, List.setIfInBounds_toArray, List.set_cons_zero, List.set_cons_succ]
              refine wpAnyH_done (by kernel_rfl) ?_ _
              obtain ⟨_, _, _, HKy⟩ := hHeld
              go_wp2_with fail
              go_roundw
              case rel => exact ⟨k + 1, _, by omega, by go_num, rfl, Lib.hid (by rw [HSn.out, ← List.append_assoc, ← HO.out]; unfold classLn; dsimp only; rw [HSW.out]; exact cl_add o p sup _ _), Lib.hid HKy.out.1⟩
              case measure => simp [intOf]; omega
          · obtain rfl : m = k := by omega
            have d1 : decide ((m : Int) < (m : Int)) = false := decide_eq_false (by omega)
            have hO : o.data.toList = textL ts cs := by have h := HO.out; rwa [List.take_of_length_le (by rw [HCL.out]; exact Nat.le_refl _)] at h
            have ho := Lib.size_eq o
            rw [hO] at ho
            have HT1 := Lib.hid (show o = ⟨(textL ts cs).toArray⟩ by rw [← hO])
            have HB := Lib.hid HKj.out.low
            clear hO HO
            by_cases hbig : 4096 < o.size
            · have d2 : decide ((4096 : Int) < (o.size : Int)) = true := decide_eq_true (by omega)
              have HV := Lib.hid (show txtV ts cs = ⟨#[]⟩ ∧ txtE ts cs = 3 from ⟨by unfold txtV; rw [if_neg (fun h => h HC0.out), if_pos (by omega)], by unfold txtE; rw [if_neg (fun h => h HC0.out), if_pos (by omega)]⟩)
              clear ho
              go_wp2_with fail
              refine bodyPost_ret (v := .tuple #[.string ⟨#[]⟩, .int .i64 3]) (by simp only [results, Tryz.results16]; go_simp) rfl ?_
              exact ⟨by rw [HV.out.1, HV.out.2], HB.out⟩
            · have d2 : decide ((4096 : Int) < (o.size : Int)) = false := decide_eq_false (by omega)
              have HV := Lib.hid (show txtV ts cs = o ∧ txtE ts cs = 0 from ⟨by unfold txtV; rw [if_neg (fun h => h HC0.out), if_neg (by omega)]; exact HT1.out.symm, by unfold txtE; rw [if_neg (fun h => h HC0.out), if_neg (by omega)]⟩)
              clear ho
              go_wp2_with fail
              refine bodyPost_ret (v := .tuple #[.string o, .int .i64 0]) (by simp only [results, Tryz.results16]; go_simp) rfl ?_
              exact ⟨by rw [HV.out.1, HV.out.2], HB.out⟩
  · have kz : (c != 0) = true := by simpa using z
    have HV := Lib.hid (show txtV ts cs = ⟨#[]⟩ ∧ txtE ts cs = c by unfold txtV txtE; rw [HC0.out, if_pos z, if_pos z]; exact ⟨rfl, rfl⟩)
    have HB := Lib.hid HK1.out.low
    go_wp2_with fail
    refine bodyPost_ret (v := .tuple #[.string ⟨#[]⟩, .int .i64 c]) (by simp only [results, Tryz.results16]; go_simp) rfl ?_
    exact ⟨by rw [HV.out.1, HV.out.2], HB.out⟩
end Go.Proofs.YtmmdaegdkikkpaaGreatDoor
end
