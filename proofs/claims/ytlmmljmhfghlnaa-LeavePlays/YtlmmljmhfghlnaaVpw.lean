/- The contract of place; no conditions but those that it states. -/
import Derived.Test.YtlmmljmhfghlnaaVpl
namespace Go.Proofs.Ytlmmljmhfghlnaa
open Go.RowKit Go.Maps Go.ChangeMaps
set_option linter.unusedVariables false
set_option linter.unusedSimpArgs false
theorem eqMc (W : World) (m : Option Nat) : (binOp .eql 56 (.map m) (.map none)).run Try.prog W = .ok (.bool m.isNone) W := by cases m <;> kernel_rfl
section
variable {w : World} {s nr : Nat} {mc mr mk : Option Nat} {CH : List Chr} {G : List Int}
set_option maxHeartbeats 8000000 in
set_option maxRecDepth 100000 in
theorem place_ (h : Sm w s mc mr mk nr CH G) (x : Se) (hx : Wf x) (hn : ∀ p ∈ CH, p.2.1 ≠ x.1) (hnr : nr + 3 < maxLen) (hl : CH.length + 1 < maxLen) : Calls Try.prog 35 #[PT s, sv x] w fun e w' => e = .returned (.tuple #[]) ∧ PlE w w' s mc mr mk nr CH G x := by
  obtain ⟨V, hV⟩ : ∃ V, V = w.alloc (.cells #[.int .i64 x.1, .int .i64 x.2.1, .int .i64 x.2.2] 33) := ⟨_, rfl⟩
  have tv : Touch [] w V := by rw [hV]; exact (Touch.refl _ _).alloc _
  have hvb : V.heap[w.heap.size]? = some (.cells #[.int .i64 x.1, .int .i64 x.2.1, .int .i64 x.2.2] 33 (0, 0)) := by rw [hV]; exact heap_alloc_new w _
  have h1 := h.keep0 tv
  have hown : ∀ z, z ∈ fpS s mc mr mk CH → Own1 V z := h1.own
  have HBX : Hid (∀ w', Touch (fpS s mc mr mk CH) V w' → w'.heap[w.heap.size]? = some (.cells #[.int .i64 x.1, .int .i64 x.2.1, .int .i64 x.2.2] 33 (0, 0))) := hid (fun w' t => t.keep hvb (fun e => (hown _ e).ne hvb (by decide) (by decide) rfl))
  have HCH : Hid (∀ wx b d n, PlA V wx s mc mr mk nr CH G b d n → ∃ o, (Instr.mapUpdate 56 (.map (some b)) (.int .i64 x.1) (.pointer (some ⟨wx.heap.size, 0, none⟩))).run Try.prog (wx.alloc (.cells (chc x (fun _ => none) (fun _ => none)) 69)).drew = .ok () (setBlock (wx.alloc (.cells (chc x (fun _ => none) (fun _ => none)) 69)).drew b o) ∧
      Md (setBlock (wx.alloc (.cells (chc x (fun _ => none) (fun _ => none)) 69)).drew b o) s b d mk n (CH ++ [(wx.heap.size, x)]) CH (CH ++ [(wx.heap.size, x)]) G 0 (Zp wx.heap.size) ∧ Touch [b] wx (setBlock (wx.alloc (.cells (chc x (fun _ => none) (fun _ => none)) 69)).drew b o) ∧ ((CH ++ [(wx.heap.size, x)]).map Prod.fst).Nodup) := hid (fun wx b d n p => pl_chair p.2.1 hx hn hl)
  have HPA : Hid (∀ wx b d n, PlA V wx s mc mr mk nr CH G b d n → wx.cell? ⟨s, 0, none⟩ = some (.map (some b)) ∧ (∀ w', Touch [] wx w' → w'.cell? ⟨s, 0, none⟩ = some (.map (some b)))) := hid (fun wx b d n p => ⟨p.2.1.cell.1, fun w' t => (p.2.1.keep0 t).cell.1⟩)
  have HFIN : Hid (∀ wx b d n W, PlA V wx s mc mr mk nr CH G b d n → Md W s b d mk (n + 3) (CH ++ [(wx.heap.size, x)]) CH (CH ++ [(wx.heap.size, x)]) G 3 (Zp wx.heap.size) → ((CH ++ [(wx.heap.size, x)]).map Prod.fst).Nodup → Touch (fpM s b d mk (CH ++ [(wx.heap.size, x)])) wx W → PlE w W s mc mr mk nr CH G x) := hid (fun wx b d n W p m nd t => by
    obtain ⟨n', e1, e2⟩ := pl_fin m nd
    obtain ⟨p1, p2, p3, p4, p5⟩ := p
    have hz := tv.size
    have hz2 := p3.size
    have tw : Touch (fpS s mc mr mk CH) w wx := (tv.mono (fun _ e => by cases e)).trans' p3
    refine ⟨b, d, wx.heap.size, n', by omega, e2, tw.trans t (fun z hz => ?_), by omega, p4.imp id (fun e => by omega), p5.imp id (fun e => by omega)⟩
    rcases mem_fpS.1 hz with e | e | e | e | e
    · exact Or.inl (mem_fpS.2 (Or.inl e))
    · rcases p4 with e2 | e2
      · exact Or.inl (mem_fpS.2 (Or.inr (Or.inl (by rw [e2]; exact e))))
      · cases e; exact Or.inr (by omega)
    · rcases p5 with e2 | e2
      · exact Or.inl (mem_fpS.2 (Or.inr (Or.inr (Or.inl (by rw [e2]; exact e)))))
      · cases e; exact Or.inr (by omega)
    · exact Or.inl (mem_fpS.2 (Or.inr (Or.inr (Or.inr (Or.inl e)))))
    · rw [List.map_append] at e
      rcases List.mem_append.1 e with e | e
      · exact Or.inl (mem_fpS.2 (Or.inr (Or.inr (Or.inr (Or.inr e)))))
      · simp only [List.map_cons, List.map_nil, List.mem_singleton] at e
        exact Or.inr (by omega))
  have HNX := hid hx
  have HNR := hid hnr
  have HVB := hid hvb
  obtain ⟨c0, c1, _, ff⟩ := h1.cell
  have hsl := block_lt h1.hb
  have b0 := cell_at (j := 0) hvb rfl
  have b1 := cell_at (j := 1) hvb rfl
  have b2 := cell_at (j := 2) hvb rfl
  have HM : Hid ((mc = none ∧ PlA V ((((V.setCell ⟨s, 0, none⟩ (.map (some V.heap.size))).setCell ⟨s, 1, none⟩ (.map (some (V.heap.size + 1)))).alloc (.map #[] 0)).alloc (.map #[] 0)) s mc mr mk nr CH G V.heap.size (V.heap.size + 1) 0) ∨ ∃ b d, mc = some b ∧ PlA V V s mc mr mk nr CH G b d nr) := hid (by
    cases mc with
    | none => exact Or.inl ⟨rfl, pl_made h1⟩
    | some b =>
      obtain ⟨d, _, p⟩ := pl_there h1
      exact Or.inr ⟨b, d, rfl, p⟩)
  have qm := eqMc
  have hmm := @run_makeMap Try.prog
  clear h h1 hx hn hnr hl tv hown hvb
  unfold PT sv
  go_enter Try.func35, Try.ntmps35
  go_upto_region 1 with fail
  rw [← hV]
  clear hV
  go_upto_if 12 with fail
  go_cut [] from 8 to 20 (fun wx => Hid (∃ b d n, PlA V wx s mc mr mk nr CH G b d n))
  case first =>
    rcases HM.out with ⟨e, p⟩ | ⟨b, d, e, p⟩
    · have HP := hid p
      subst e
      clear p HM
      go_wp2
      go_meet
      case rel => exact ⟨_, _, _, HP.out⟩
    · have HP := hid p
      subst e
      clear p HM
      go_wp2
      go_meet
      case rel => exact ⟨_, _, _, HP.out⟩
  case rest =>
    clear HM c0 c1 ff hsl b0 b1 b2 qm hmm
    obtain ⟨b, d, n, hp⟩ := hcut.out
    clear hcut
    obtain ⟨o, U1, M0, T0, ND⟩ := HCH.out wc b d n hp
    obtain ⟨c0, C0⟩ := HPA.out wc b d n hp
    have BX := HBX.out wc hp.2.2.1
    have HSZ : Hid (w.heap.size < wc.heap.size) := hid (block_lt BX)
    have b0 := cell_at (j := 0) BX rfl
    have b1 := cell_at (j := 1) BX rfl
    have b2 := cell_at (j := 2) BX rfl
    have HN3 : Hid (n + 3 < maxLen) := hid (by have := HNR.out; have := hp.1; omega)
    have HFN := hid (fun W => HFIN.out wc b d n W hp)
    clear HCH HPA HBX HFIN HNR HVB
    obtain ⟨q, hq⟩ : ∃ q, q = wc.heap.size := ⟨_, rfl⟩
    obtain ⟨W1, hW1⟩ : ∃ W1, W1 = wc.alloc (.cells (chc x (fun _ => none) (fun _ => none)) 69) := ⟨_, rfl⟩
    have t1 : Touch [] wc W1 := by rw [hW1]; exact (Touch.refl _ _).alloc _
    have S0 : ∀ w', Touch [] W1 w' → w'.cell? ⟨s, 0, none⟩ = some (.map (some b)) := fun w' t => C0 _ (t1.trans' t)
    have X0 : ∀ w', Touch [] W1 w' → w'.cell? ⟨w.heap.size, 0, none⟩ = some (.int .i64 x.1) := fun w' t => cell_at ((t1.trans' t).keep BX (by simp)) rfl
    rw [← hW1, ← hq] at U1 M0
    rw [← hW1] at T0
    rw [← hq] at ND HFN
    obtain ⟨W2, hW2⟩ : ∃ W2, W2 = setBlock W1.drew b o := ⟨_, rfl⟩
    rw [← hW2] at U1 M0 T0
    have BX2 : W2.heap[w.heap.size]? = some (.cells #[.int .i64 x.1, .int .i64 x.2.1, .int .i64 x.2.2] 33 (0, 0)) := T0.keep BX (fun e => by
      simp only [List.mem_singleton] at e
      obtain ⟨es2, cl2, h7⟩ : ∃ es cl, wc.heap[b]? = some (.map es cl) := by
        rcases hp.2.1.cm with ⟨h1, _⟩ | ⟨b', d', h1, _, _, h3, _⟩
        · cases h1
        · cases h1; exact h3.kind
      rw [← e, BX] at h7
      cases h7)
    have HM0 := hid M0
    have HT0 : Hid (Touch (fpM s b d mk (CH ++ [(q, x)])) wc W2) := hid (T0.mono (fun z hz => mem_fpS.2 (Or.inr (Or.inl (by simp at hz; rw [hz])))))
    have HND := hid ND
    have k0 : Touch [] W1 W1.drew := (Touch.refl _ _).drew
    clear C0 BX M0 T0 ND hp t1
    unfold chc pv at hW1
    simp only [Option.map_none] at hW1
    go_upto_region 4 with fail
    rw [← hW1, ← hq]
    clear hW1 b0 b1 b2 hq
    refine wp_region_L (S := fun w' => Touch [] W1 w') (st := 7) (by kernel_rfl) ?_
    refine wpL_take (i := 0) (v := (.pointer (some ⟨s, 0, none⟩))) (some 24) rfl rfl (by kernel_rfl) (by kernel_rfl) (by kernel_rfl) (by kernel_rfl) (by kernel_rfl) (by decide) (fun _ _ _ h => h) (Or.inl ⟨by rfl, fun w' hS => (by go_simp)⟩) k0 ?_
    try simp only [Go.Act.put, List.setIfInBounds_toArray, List.set_cons_zero, List.set_cons_succ]
    refine wpL_take (i := 1) (v := (.pointer (some ⟨s, 0, none⟩))) (some 25) rfl rfl (by kernel_rfl) (by kernel_rfl) (by kernel_rfl) (by kernel_rfl) (by kernel_rfl) (by decide) (fun _ _ _ h => h) (Or.inl ⟨by rfl, fun w' hS => (by go_simp)⟩) k0 ?_
    try simp only [Go.Act.put, List.setIfInBounds_toArray, List.set_cons_zero, List.set_cons_succ]
    refine wpL_take (i := 2) (v := (.pointer (some ⟨s, 0, none⟩))) (some 26) rfl rfl (by kernel_rfl) (by kernel_rfl) (by kernel_rfl) (by kernel_rfl) (by kernel_rfl) (by decide) (fun _ _ _ h => h) (Or.inl ⟨by rfl, fun w' hS => (by go_simp)⟩) k0 ?_
    try simp only [Go.Act.put, List.setIfInBounds_toArray, List.set_cons_zero, List.set_cons_succ]
    refine wpL_take (i := 3) (v := (.map (some b))) (some 27) rfl rfl (by kernel_rfl) (by kernel_rfl) (by kernel_rfl) (by kernel_rfl) (by kernel_rfl) (by decide) (fun _ _ _ h => h) (Or.inl ⟨by rfl, fun w' hS => (by have z0 := S0 _ hS; go_simp)⟩) k0 ?_
    try simp only [Go.Act.put, List.setIfInBounds_toArray, List.set_cons_zero, List.set_cons_succ]
    refine wpL_take (i := 4) (v := (.pointer (some ⟨w.heap.size, 0, none⟩))) (some 28) rfl rfl (by kernel_rfl) (by kernel_rfl) (by kernel_rfl) (by kernel_rfl) (by kernel_rfl) (by decide) (fun _ _ _ h => h) (Or.inl ⟨by rfl, fun w' hS => (by go_simp)⟩) k0 ?_
    try simp only [Go.Act.put, List.setIfInBounds_toArray, List.set_cons_zero, List.set_cons_succ]
    refine wpL_take (i := 5) (v := (.int .i64 x.1)) (some 29) rfl rfl (by kernel_rfl) (by kernel_rfl) (by kernel_rfl) (by kernel_rfl) (by kernel_rfl) (by decide) (fun _ _ _ h => h) (Or.inl ⟨by rfl, fun w' hS => (by have z0 := X0 _ hS; go_simp)⟩) k0 ?_
    try simp only [Go.Act.put, List.setIfInBounds_toArray, List.set_cons_zero, List.set_cons_succ]
    refine wpL_take (i := 6) (v := (.pointer (some ⟨q, 0, none⟩))) (some 30) rfl rfl (by kernel_rfl) (by kernel_rfl) (by kernel_rfl) (by kernel_rfl) (by kernel_rfl) (by decide) (fun _ _ _ h => h) (Or.inl ⟨by rfl, fun w' hS => (by go_simp)⟩) k0 ?_
    try simp only [Go.Act.put, List.setIfInBounds_toArray, List.set_cons_zero, List.set_cons_succ]
    refine wpL_ready (rs := [7]) (by kernel_rfl) (by simp) (AllL.cons (o := { dst := none, op := Op.mapUpdate 56 (Operand.tmp 27) (Operand.tmp 29) (Operand.tmp 30), type := 0, pos := _, after := #[{ on := 3, ground := Ground.data }, { on := 5, ground := Ground.data }, { on := 6, ground := Ground.data }, { on := 0, ground := Ground.phase }, { on := 1, ground := Ground.phase }, { on := 2, ground := Ground.phase }, { on := 3, ground := Ground.phase }, { on := 4, ground := Ground.phase }, { on := 5, ground := Ground.phase }, { on := 6, ground := Ground.phase }], guard := none }) rfl (fun K' hK => ?_) AllL.nil)
    rw [if_pos (by rfl)]
    go_simp
    rw [← hW2]
    clear hW2 U1 k0
    refine hK.out _ _ (fun h => absurd h (by decide)) ?_
    clear hK
    try simp only [Go.Act.put, List.setIfInBounds_toArray, List.set_cons_zero, List.set_cons_succ]
    refine wpL_done (by kernel_rfl) ?_ _
    have HNM := hid (names_ W2 x)
    have HC2 : Hid (∀ w', Touch [] W2 w' → w'.cell? ⟨w.heap.size, 0, none⟩ = some (.int .i64 x.1) ∧ w'.cell? ⟨w.heap.size, 1, none⟩ = some (.int .i64 x.2.1) ∧ w'.cell? ⟨w.heap.size, 2, none⟩ = some (.int .i64 x.2.2)) := hid (fun w' t => ⟨cell_at (t.keep BX2 (by simp)) rfl, cell_at (t.keep BX2 (by simp)) rfl, cell_at (t.keep BX2 (by simp)) rfl⟩)
    obtain ⟨b0, b1, b2⟩ := HC2.out W2 (Touch.refl _ _)
    clear BX2 HC2 S0 X0
    unfold sv nm3 at HNM
    go_wp2_with (go_at_call 39; refine HNM.out.mono ?_; rintro e w3 ⟨rfl, t3⟩; have T3 := hid t3; clear t3)
    have HM3 := hid (HM0.out.keep0 T3.out)
    have HT3 : Hid (Touch (fpM s b d mk (CH ++ [(q, x)])) wc w3) := hid (HT0.out.trans T3.out (fun _ e => by cases e))
    clear b0 b1 b2 HM0 HT0 T3 HNM
    go_loopw [33] (fun s33 wr => ∃ i : Nat, s33 = .int .i64 (i : Int) ∧ Hid (i ≤ 3 ∧ Md wr s b d mk (n + i) (CH ++ [(q, x)]) CH (CH ++ [(q, x)]) G i (Zp q) ∧ Touch (fpM s b d mk (CH ++ [(q, x)])) wc wr)) (fun i _ => 3 - (intOf i).toNat)
    case atStart => exact ⟨0, rfl, Nat.zero_le _, HM3.out, HT3.out⟩
    case round =>
      clear HM3 HT3
      obtain ⟨i, rfl, HR⟩ := hrel
      by_cases hi : i < 3
      · have zi : (i : Int) < 3 := by omega
        have qx := fun w => ixN w x.2.1 x.2.2 x rfl rfl hi
        obtain ⟨m, hm⟩ : ∃ m, m = num i x := ⟨_, rfl⟩
        have HMW : Hid (W64 m) := hid (by rw [hm]; exact num_wf HNX.out i)
        rw [← hm] at qx
        obtain ⟨V1, hV1⟩ : ∃ V1, V1 = wr.alloc (.cells #[.int .i64 (i : Int), .int .i64 m] 73) := ⟨_, rfl⟩
        have tv1 : Touch [] wr V1 := by rw [hV1]; exact (Touch.refl _ _).alloc _
        have hnb : V1.heap[wr.heap.size]? = some (.cells #[.int .i64 (i : Int), .int .i64 m] 73 (0, 0)) := by rw [hV1]; exact heap_alloc_new wr _
        have M1 : ∀ w', Touch [] V1 w' → w'.cell? ⟨s, 1, none⟩ = some (.map (some d)) := fun w' t => (HR.out.2.1.keep0 (tv1.trans' t)).cell
        have B0 : ∀ w', Touch [] V1 w' → w'.cell? ⟨wr.heap.size, 0, none⟩ = some (.int .i64 (i : Int)) := fun w' t => cell_at (t.keep hnb (by simp)) rfl
        have B1 : ∀ w', Touch [] V1 w' → w'.cell? ⟨wr.heap.size, 1, none⟩ = some (.int .i64 m) := fun w' t => cell_at (t.keep hnb (by simp)) rfl
        have L0 : ∀ w', Touch [] V1 w' → (Instr.lookup 57 (.map (some d)) (.agg #[.int .i64 (i : Int), .int .i64 m]) false).run Try.prog w' = .ok (.agg #[pv (rowOf i m CH).head?, pv (lastO none (rowOf i m CH))]) w' := fun w' t => (HR.out.2.1.keep0 (tv1.trans' t)).lookR hi HMW.out
        obtain ⟨f, hf⟩ : ∃ f, pv (rowOf i m CH).head? = .pointer f := ⟨_, rfl⟩
        obtain ⟨l, hl⟩ : ∃ l, pv (lastO none (rowOf i m CH)) = .pointer l := ⟨_, rfl⟩
        rw [hf, hl] at L0
        have HAD : Hid (∀ V2, Touch [] V1 V2 → V2.heap[V1.heap.size]? = some (.cells #[.pointer f, .pointer l] 82 (0, 0)) → Calls Try.prog 41 #[PT V1.heap.size, .int .i64 (i : Int), PT q] V2 fun e W => e = .returned (.tuple #[]) ∧ ∃ f2 o, Rb W s d wr.heap.size V1.heap.size i m f2 (some q) ∧ (Instr.mapUpdate 57 (.map (some d)) (.agg #[.int .i64 (i : Int), .int .i64 m]) (.agg #[pv f2, pv (some q)])).run Try.prog W.drew = .ok () (setBlock W.drew d o) ∧ Md (setBlock W.drew d o) s b d mk (n + (i + 1)) (CH ++ [(q, x)]) CH (CH ++ [(q, x)]) G (i + 1) (Zp q) ∧ Touch (fpM s b d mk (CH ++ [(q, x)])) wc (setBlock W.drew d o)) := hid (fun V2 t hr => by
          have t2 := tv1.trans' t
          have hr' : V2.heap[V1.heap.size]? = some (.cells #[pv (rowOf i m CH).head?, pv (lastO none (rowOf i m CH))] 82 (0, 0)) := by rw [hf, hl]; exact hr
          have hM2 := HR.out.2.1.keep0 t2
          obtain ⟨y1, y2⟩ := place_ready hM2 HND.out m
          refine (add_ V2 V1.heap.size q i hi _ _ hr' y1 y2).mono ?_
          rintro e W ⟨rfl, hE⟩
          subst hm
          obtain ⟨f2, o, z1, z2, z3, z4⟩ := place_step HR.out.2.1 hi HNX.out HND.out HN3.out t2 (t.keep hnb (by simp)) tv1.size hr' hE
          exact ⟨rfl, f2, o, z1, z2, z3, HR.out.2.2.trans z4 (fun z hz => Or.inl hz)⟩)
        have HI := hid (And.intro hi HR.out.1)
        have kv0 : Touch [] V1 V1.drew := (Touch.refl _ _).drew
        clear hf hl hnb tv1 HMW HR hi hm
        unfold PT at HAD
        go_upto_region 8 with fail
        rw [← hV1]
        clear hV1 qx
        refine wp_region_L (S := fun w' => Touch [] V1 w') (st := 7) (by kernel_rfl) ?_
        refine wpL_take (i := 0) (v := (.pointer (some ⟨s, 0, none⟩))) (some 36) rfl rfl (by kernel_rfl) (by kernel_rfl) (by kernel_rfl) (by kernel_rfl) (by kernel_rfl) (by decide) (fun _ _ _ h => h) (Or.inl ⟨by rfl, fun w' hS => (by go_simp)⟩) kv0 ?_
        try simp only [Go.Act.put, List.setIfInBounds_toArray, List.set_cons_zero, List.set_cons_succ]
        refine wpL_take (i := 1) (v := (.pointer (some ⟨s, 0, none⟩))) (some 37) rfl rfl (by kernel_rfl) (by kernel_rfl) (by kernel_rfl) (by kernel_rfl) (by kernel_rfl) (by decide) (fun _ _ _ h => h) (Or.inl ⟨by rfl, fun w' hS => (by go_simp)⟩) kv0 ?_
        try simp only [Go.Act.put, List.setIfInBounds_toArray, List.set_cons_zero, List.set_cons_succ]
        refine wpL_take (i := 2) (v := (.pointer (some ⟨s, 1, none⟩))) (some 38) rfl rfl (by kernel_rfl) (by kernel_rfl) (by kernel_rfl) (by kernel_rfl) (by kernel_rfl) (by decide) (fun _ _ _ h => h) (Or.inl ⟨by rfl, fun w' hS => (by go_simp)⟩) kv0 ?_
        try simp only [Go.Act.put, List.setIfInBounds_toArray, List.set_cons_zero, List.set_cons_succ]
        refine wpL_take (i := 3) (v := (.map (some d))) (some 39) rfl rfl (by kernel_rfl) (by kernel_rfl) (by kernel_rfl) (by kernel_rfl) (by kernel_rfl) (by decide) (fun _ _ _ h => h) (Or.inl ⟨by rfl, fun w' hS => (by have z0 := M1 _ hS; go_simp)⟩) kv0 ?_
        try simp only [Go.Act.put, List.setIfInBounds_toArray, List.set_cons_zero, List.set_cons_succ]
        refine wpL_take (i := 4) (v := (.agg #[.int .i64 (i : Int), .int .i64 m])) (some 40) rfl rfl (by kernel_rfl) (by kernel_rfl) (by kernel_rfl) (by kernel_rfl) (by kernel_rfl) (by decide) (fun _ _ _ h => h) (Or.inl ⟨by rfl, fun w' hS => (by have z0 := B0 _ hS; have z1 := B1 _ hS; go_simp)⟩) kv0 ?_
        try simp only [Go.Act.put, List.setIfInBounds_toArray, List.set_cons_zero, List.set_cons_succ]
        refine wpL_take (i := 5) (v := (.agg #[.pointer f, .pointer l])) (some 41) rfl rfl (by kernel_rfl) (by kernel_rfl) (by kernel_rfl) (by kernel_rfl) (by kernel_rfl) (by decide) (fun _ _ _ h => h) (Or.inl ⟨by rfl, fun w' hS => (by have z0 := L0 _ hS; go_simp)⟩) kv0 ?_
        try simp only [Go.Act.put, List.setIfInBounds_toArray, List.set_cons_zero, List.set_cons_succ]
        refine wpL_ready (rs := [6]) (by kernel_rfl) (by simp) (AllL.cons (o := { dst := some 7, op := Op.alloc 82, type := 0, pos := _, after := #[], guard := none }) rfl (fun K' hK => ?_) AllL.nil)
        rw [if_pos (by rfl)]
        go_simp
        refine hK.out _ _ (fun _ => ((Touch.refl _ _).alloc _).drew) ?_
        clear hK
        try simp only [Go.Act.put, List.setIfInBounds_toArray, List.set_cons_zero, List.set_cons_succ]
        refine wpL_ready (rs := [7]) (by kernel_rfl) (by simp) (AllL.cons (o := { dst := none, op := Op.store 82 (Operand.tmp 7) (Operand.tmp 41), type := 0, pos := _, after := #[{ on := 6, ground := Ground.data }, { on := 5, ground := Ground.data }, { on := 0, ground := Ground.phase }, { on := 1, ground := Ground.phase }, { on := 2, ground := Ground.phase }, { on := 3, ground := Ground.phase }, { on := 4, ground := Ground.phase }, { on := 5, ground := Ground.phase }, { on := 6, ground := Ground.phase }], guard := none }) rfl (fun K' hK => ?_) AllL.nil)
        rw [if_pos (by rfl)]
        go_simp
        refine hK.out _ _ (fun h => absurd h (by decide)) ?_
        clear hK
        try simp only [Go.Act.put, List.setIfInBounds_toArray, List.set_cons_zero, List.set_cons_succ]
        refine wpL_done (by kernel_rfl) ?_ _
        have k5 : Touch [] V1 (V1.alloc (.cells #[.pointer f, .pointer l] 82)).drew := ((Touch.refl _ _).alloc _).drew
        have HK := hid (HAD.out _ k5 (heap_alloc_new V1 _))
        have b0 := B0 _ k5
        clear M1 B0 B1 L0 kv0 k5 HAD
        generalize (V1.alloc (.cells #[.pointer f, .pointer l] 82)).drew = V2 at *
        go_upto_region 10 with (go_at_call 41; refine HK.out.mono ?_; rintro e W ⟨rfl, f2, o3, z1, z2, z3, z4⟩; have HZ := hid (And.intro z1 (And.intro z2 (And.intro z3 z4))); clear z1 z2 z3 z4 b0)
        obtain ⟨z1, z2, z3, z4⟩ := HZ.out
        obtain ⟨s1, n0, n1, r0, r1⟩ := z1
        obtain ⟨f3, hf3⟩ : ∃ f3, pv f2 = .pointer f3 := ⟨_, rfl⟩
        rw [hf3] at r0 z2
        rw [pv_some] at r1 z2
        unfold PT at r1 z2
        have HM4 := hid z3
        have HT4 := hid z4
        obtain ⟨W5, hW5⟩ : ∃ W5, W5 = setBlock W.drew d o3 := ⟨_, rfl⟩
        rw [← hW5] at z2 HM4 HT4
        have k6 : Touch [] W W.drew := (Touch.refl _ _).drew
        clear HK HZ z3 z4 hf3
        refine wp_region_L (S := fun w' => Touch [] W w') (st := 6) (by kernel_rfl) ?_
        refine wpL_take (i := 0) (v := (.pointer (some ⟨s, 0, none⟩))) (some 46) rfl rfl (by kernel_rfl) (by kernel_rfl) (by kernel_rfl) (by kernel_rfl) (by kernel_rfl) (by decide) (fun _ _ _ h => h) (Or.inl ⟨by rfl, fun w' hS => (by go_simp)⟩) k6 ?_
        try simp only [Go.Act.put, List.setIfInBounds_toArray, List.set_cons_zero, List.set_cons_succ]
        refine wpL_take (i := 1) (v := (.pointer (some ⟨s, 0, none⟩))) (some 47) rfl rfl (by kernel_rfl) (by kernel_rfl) (by kernel_rfl) (by kernel_rfl) (by kernel_rfl) (by decide) (fun _ _ _ h => h) (Or.inl ⟨by rfl, fun w' hS => (by go_simp)⟩) k6 ?_
        try simp only [Go.Act.put, List.setIfInBounds_toArray, List.set_cons_zero, List.set_cons_succ]
        refine wpL_take (i := 2) (v := (.pointer (some ⟨s, 1, none⟩))) (some 48) rfl rfl (by kernel_rfl) (by kernel_rfl) (by kernel_rfl) (by kernel_rfl) (by kernel_rfl) (by decide) (fun _ _ _ h => h) (Or.inl ⟨by rfl, fun w' hS => (by go_simp)⟩) k6 ?_
        try simp only [Go.Act.put, List.setIfInBounds_toArray, List.set_cons_zero, List.set_cons_succ]
        refine wpL_take (i := 3) (v := (.map (some d))) (some 49) rfl rfl (by kernel_rfl) (by kernel_rfl) (by kernel_rfl) (by kernel_rfl) (by kernel_rfl) (by decide) (fun _ _ _ h => h) (Or.inl ⟨by rfl, fun w' hS => (by have z0 := s1 _ hS; go_simp)⟩) k6 ?_
        try simp only [Go.Act.put, List.setIfInBounds_toArray, List.set_cons_zero, List.set_cons_succ]
        refine wpL_take (i := 4) (v := (.agg #[.int .i64 (i : Int), .int .i64 m])) (some 50) rfl rfl (by kernel_rfl) (by kernel_rfl) (by kernel_rfl) (by kernel_rfl) (by kernel_rfl) (by decide) (fun _ _ _ h => h) (Or.inl ⟨by rfl, fun w' hS => (by have z0 := n0 _ hS; have z1 := n1 _ hS; go_simp)⟩) k6 ?_
        try simp only [Go.Act.put, List.setIfInBounds_toArray, List.set_cons_zero, List.set_cons_succ]
        refine wpL_take (i := 5) (v := (.agg #[.pointer f3, .pointer (some ⟨q, 0, none⟩)])) (some 51) rfl rfl (by kernel_rfl) (by kernel_rfl) (by kernel_rfl) (by kernel_rfl) (by kernel_rfl) (by decide) (fun _ _ _ h => h) (Or.inl ⟨by rfl, fun w' hS => (by have z0 := r0 _ hS; have z1 := r1 _ hS; go_simp)⟩) k6 ?_
        try simp only [Go.Act.put, List.setIfInBounds_toArray, List.set_cons_zero, List.set_cons_succ]
        refine wpL_ready (rs := [6]) (by kernel_rfl) (by simp) (AllL.cons (o := { dst := none, op := Op.mapUpdate 57 (Operand.tmp 49) (Operand.tmp 50) (Operand.tmp 51), type := 0, pos := _, after := #[{ on := 3, ground := Ground.data }, { on := 4, ground := Ground.data }, { on := 5, ground := Ground.data }, { on := 0, ground := Ground.phase }, { on := 1, ground := Ground.phase }, { on := 2, ground := Ground.phase }, { on := 3, ground := Ground.phase }, { on := 4, ground := Ground.phase }, { on := 5, ground := Ground.phase }], guard := none }) rfl (fun K' hK => ?_) AllL.nil)
        rw [if_pos (by rfl)]
        go_simp
        rw [← hW5]
        clear hW5 z2 k6 s1 n0 n1 r0 r1
        refine hK.out _ _ (fun h => absurd h (by decide)) ?_
        clear hK
        try simp only [Go.Act.put, List.setIfInBounds_toArray, List.set_cons_zero, List.set_cons_succ]
        refine wpL_done (by kernel_rfl) ?_ _
        go_wp2
        go_roundw
        case rel => exact ⟨i + 1, by go_num, by have := HI.out.1; omega, HM4.out, HT4.out⟩
        case measure => simp [intOf]; have := HI.out.1; omega
      · have HZ : Hid (PlE w wr s mc mr mk nr CH G x) := hid (by
          obtain ⟨h1, h2, h3⟩ := HR.out
          obtain rfl : i = 3 := by omega
          exact HFN.out wr h2 HND.out h3)
        have zi : 3 ≤ (i : Int) := by omega
        clear HR
        go_wp2
        go_end0
        exact ⟨rfl, HZ.out⟩
end
end Go.Proofs.Ytlmmljmhfghlnaa
