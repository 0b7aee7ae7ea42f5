/- The contracts of has and Empty; no conditions but those that each states. -/
import Derived.Test.YtlmmljmhfghlnaaVsj
namespace Go.Proofs.Ytlmmljmhfghlnaa
open Go.RowKit Go.Maps Go.ChangeMaps
set_option linter.unusedVariables false
set_option linter.unusedSimpArgs false
section
variable {w : World} {s nr : Nat} {mc mr mk : Option Nat} {CH : List Chr} {G : List Int}
set_option maxHeartbeats 4000000 in
theorem has_ (h : Sm w s mc mr mk nr CH G) {k : Nat} (hk : k < 3) {n : Int} (hn : W64 n) : Calls Try.prog 33 #[PT s, .agg #[.int .i64 (k : Int), .int .i64 n]] w fun e w' => e = .returned (.bool (decide (rowOf k n CH ≠ []))) ∧ Touch [] w w' := by
  obtain ⟨V, hV⟩ : ∃ V, V = w.alloc (bxN k n) := ⟨_, rfl⟩
  have tv : Touch [] w V := by rw [hV]; exact (Touch.refl _ _).alloc _
  have hvb : V.heap[w.heap.size]? = some (.cells #[.int .i64 (k : Int), .int .i64 n] 73 (0, 0)) := by rw [hV]; exact heap_alloc_new w _
  have M1 : ∀ w', Touch [] V w' → w'.cell? ⟨s, 1, none⟩ = some (.map mr) := fun w' t => (h.keep0 (tv.trans' t)).cell.2.1
  have B0 : ∀ w', Touch [] V w' → w'.cell? ⟨w.heap.size, 0, none⟩ = some (.int .i64 (k : Int)) := fun w' t => cell_at (t.keep hvb (by simp)) rfl
  have B1 : ∀ w', Touch [] V w' → w'.cell? ⟨w.heap.size, 1, none⟩ = some (.int .i64 n) := fun w' t => cell_at (t.keep hvb (by simp)) rfl
  have L0 : ∀ w', Touch [] V w' → (Instr.lookup 57 (.map mr) (.agg #[.int .i64 (k : Int), .int .i64 n]) true).run Try.prog w' = .ok (.tuple #[.agg #[pv (rowOf k n CH).head?, pv (lastO none (rowOf k n CH))], .bool (decide (rowOf k n CH ≠ []))]) w' := fun w' t => (h.keep0 (tv.trans' t)).lookRok hk hn
  obtain ⟨f, hf⟩ : ∃ f, pv (rowOf k n CH).head? = .pointer f := ⟨_, rfl⟩
  obtain ⟨l, hl'⟩ : ∃ l, pv (lastO none (rowOf k n CH)) = .pointer l := ⟨_, rfl⟩
  rw [hf, hl'] at L0
  have k0 : Touch [] V V.drew := (Touch.refl _ _).drew
  have HE : Hid (∀ w', Touch [] V w' → Touch [] w w') := hid (fun w' t => tv.trans' t)
  clear h tv hvb hn hf hl' hk
  generalize decide (rowOf k n CH ≠ []) = B at *
  unfold bxN at hV
  unfold PT at *
  go_enter Try.func33, Try.ntmps33
  go_upto_region 1 with fail
  rw [← hV]
  clear hV
  go_upto_region 3 with fail
  refine wp_region_L (S := fun w' => Touch [] V w') (st := 10) (by kernel_rfl) ?_
  refine wpL_take (i := 0) (v := (.pointer (some ⟨s, 0, none⟩))) (some 10) rfl rfl (by kernel_rfl) (by kernel_rfl) (by kernel_rfl) (by kernel_rfl) (by kernel_rfl) (by decide) (fun _ _ _ h => h) (Or.inl ⟨by rfl, fun w' hS => (by go_simp)⟩) k0 ?_
  try simp only [Go.Act.put, List.setIfInBounds_toArray, List.set_cons_zero, List.set_cons_succ]
  refine wpL_take (i := 1) (v := (.pointer (some ⟨s, 0, none⟩))) (some 11) rfl rfl (by kernel_rfl) (by kernel_rfl) (by kernel_rfl) (by kernel_rfl) (by kernel_rfl) (by decide) (fun _ _ _ h => h) (Or.inl ⟨by rfl, fun w' hS => (by go_simp)⟩) k0 ?_
  try simp only [Go.Act.put, List.setIfInBounds_toArray, List.set_cons_zero, List.set_cons_succ]
  refine wpL_take (i := 2) (v := (.pointer (some ⟨s, 1, none⟩))) (some 12) rfl rfl (by kernel_rfl) (by kernel_rfl) (by kernel_rfl) (by kernel_rfl) (by kernel_rfl) (by decide) (fun _ _ _ h => h) (Or.inl ⟨by rfl, fun w' hS => (by go_simp)⟩) k0 ?_
  try simp only [Go.Act.put, List.setIfInBounds_toArray, List.set_cons_zero, List.set_cons_succ]
  refine wpL_take (i := 3) (v := (.map mr)) (some 13) rfl rfl (by kernel_rfl) (by kernel_rfl) (by kernel_rfl) (by kernel_rfl) (by kernel_rfl) (by decide) (fun _ _ _ h => h) (Or.inl ⟨by rfl, fun w' hS => (by have z0 := M1 _ hS; go_simp)⟩) k0 ?_
  try simp only [Go.Act.put, List.setIfInBounds_toArray, List.set_cons_zero, List.set_cons_succ]
  refine wpL_take (i := 4) (v := (.agg #[.int .i64 (k : Int), .int .i64 n])) (some 14) rfl rfl (by kernel_rfl) (by kernel_rfl) (by kernel_rfl) (by kernel_rfl) (by kernel_rfl) (by decide) (fun _ _ _ h => h) (Or.inl ⟨by rfl, fun w' hS => (by have z0 := B0 _ hS; have z1 := B1 _ hS; go_simp)⟩) k0 ?_
  try simp only [Go.Act.put, List.setIfInBounds_toArray, List.set_cons_zero, List.set_cons_succ]
  refine wpL_take (i := 5) (v := (.tuple #[(.agg #[.pointer f, .pointer l]), (.bool B)])) (some 15) rfl rfl (by kernel_rfl) (by kernel_rfl) (by kernel_rfl) (by kernel_rfl) (by kernel_rfl) (by decide) (fun _ _ _ h => h) (Or.inl ⟨by rfl, fun w' hS => (by have z0 := L0 _ hS; go_simp)⟩) k0 ?_
  try simp only [Go.Act.put, List.setIfInBounds_toArray, List.set_cons_zero, List.set_cons_succ]
  refine wpL_take (i := 6) (v := (.tuple #[(.agg #[.pointer f, .pointer l]), (.bool B)])) (some 9) rfl rfl (by kernel_rfl) (by kernel_rfl) (by kernel_rfl) (by kernel_rfl) (by kernel_rfl) (by decide) (fun _ _ _ h => h) (Or.inl ⟨by rfl, fun w' hS => (by go_simp)⟩) k0 ?_
  try simp only [Go.Act.put, List.setIfInBounds_toArray, List.set_cons_zero, List.set_cons_succ]
  refine wpL_take (i := 7) (v := (.agg #[.pointer f, .pointer l])) (some 16) rfl rfl (by kernel_rfl) (by kernel_rfl) (by kernel_rfl) (by kernel_rfl) (by kernel_rfl) (by decide) (fun _ _ _ h => h) (Or.inl ⟨by rfl, fun w' hS => (by go_simp)⟩) k0 ?_
  try simp only [Go.Act.put, List.setIfInBounds_toArray, List.set_cons_zero, List.set_cons_succ]
  refine wpL_takeY (i := 8) (v := (.bool B)) (some 17) rfl rfl (by kernel_rfl) (by kernel_rfl) (by kernel_rfl) (by decide) (fun _ _ _ h => h) (Or.inl ⟨by rfl, fun w' hS => (by go_simp)⟩) (fun _ => k0) ?_
  try simp only [Go.Act.put, List.setIfInBounds_toArray, List.set_cons_zero, List.set_cons_succ]
  refine wpL_ready (rs := [9]) (by kernel_rfl) (by simp) (AllL.cons (o := { dst := some 5, op := Op.alloc 82, type := 0, pos := _, after := #[], guard := none }) rfl (fun K' hK => ?_) AllL.nil)
  rw [if_pos (by rfl)]
  go_simp
  refine hK.out _ _ (fun _ => ((Touch.refl _ _).alloc _).drew) ?_
  clear hK
  try simp only [Go.Act.put, List.setIfInBounds_toArray, List.set_cons_zero, List.set_cons_succ]
  refine wpL_ready (rs := [10]) (by kernel_rfl) (by simp) (AllL.cons (o := { dst := none, op := Op.store 82 (Operand.tmp 5) (Operand.tmp 16), type := 0, pos := _, after := #[{ on := 9, ground := Ground.data }, { on := 7, ground := Ground.data }, { on := 0, ground := Ground.phase }, { on := 1, ground := Ground.phase }, { on := 2, ground := Ground.phase }, { on := 3, ground := Ground.phase }, { on := 4, ground := Ground.phase }, { on := 5, ground := Ground.phase }, { on := 6, ground := Ground.phase }, { on := 7, ground := Ground.phase }, { on := 8, ground := Ground.textOnly Departure.lateStores }, { on := 9, ground := Ground.phase }], guard := none }) rfl (fun K' hK => ?_) AllL.nil)
  rw [if_pos (by rfl)]
  go_simp
  refine hK.out _ _ (fun h => absurd h (by decide)) ?_
  clear hK
  try simp only [Go.Act.put, List.setIfInBounds_toArray, List.set_cons_zero, List.set_cons_succ]
  refine wpL_takeY (i := 11) (v := (.bool B)) (some 6) rfl rfl (by kernel_rfl) (by kernel_rfl) (by kernel_rfl) (by decide) (fun _ _ _ h => h) (Or.inl ⟨by rfl, fun w' hS => (by go_simp)⟩) (fun h => absurd h (by decide)) ?_
  try simp only [Go.Act.put, List.setIfInBounds_toArray, List.set_cons_zero, List.set_cons_succ]
  refine wpL_done (by kernel_rfl) ?_ _
  go_wp2
  go_ret
  exact ⟨rfl, HE.out _ ((Touch.refl _ _).alloc _).drew⟩
end
theorem row_in1 (CH : List Chr) (n : Int) : decide (rowOf 1 n CH ≠ []) = decide (inL 1 n (CH.map Prod.snd) ≠ []) := by
  rw [decide_eq_decide, ← inK1]
  have := row_len CH 1 n
  rw [ne_eq, ne_eq, ← List.length_eq_zero_iff, ← List.length_eq_zero_iff, this]
theorem hasQ {w : World} {s N : Nat} {F : List Nat} {L : List Se} {G : List Int} (h : Sq w s F L G N) {n : Int} (hn : W64 n) : Calls Try.prog 33 #[PT s, .agg #[.int .i64 1, .int .i64 n]] w fun e w' => e = .returned (.bool (decide (inL 1 n L ≠ []))) ∧ Touch [] w w' := by
  obtain ⟨mc, mr, mk, nr, CH, rfl, rfl, h1, h2, h3⟩ := h
  rw [← row_in1]
  exact has_ h1 (k := 1) (by omega) hn
theorem has_nil (w : World) (n : Int) : Calls Try.prog 33 #[.pointer none, .agg #[.int .i64 1, .int .i64 n]] w fun e w' => e = .returned (.bool false) ∧ Touch [] w w' := by
  go_enter Try.func33, Try.ntmps33
  go_wp2
  go_ret
  exact ⟨rfl, (Touch.refl _ _).alloc _⟩
/-- One run more is asked for. -/
def emS (L : List Se) (acc : List Int) (r : Int) : List Int := if inL 1 r L = [] ∧ ¬ r ∈ acc then acc ++ [r] else acc
def emq (L : List Se) (rs : List Int) : List Int := rs.foldl (emS L) []
theorem emq_snoc {L : List Se} {rs : List Int} {i : Nat} {r : Int} (h : rs[i]? = some r) : emq L (rs.take (i + 1)) = emS L (emq L (rs.take i)) r := by
  rw [take_snoc h, emq, List.foldl_append]
  rfl
theorem emq_len (L : List Se) (rs : List Int) (i : Nat) : (emq L (rs.take i)).length ≤ i := by
  have : ∀ (l acc : List Int), (l.foldl (emS L) acc).length ≤ acc.length + l.length := fun l => by
    induction l with
    | nil => intro acc; simp
    | cons a r ih =>
      intro acc
      rw [List.foldl_cons]
      refine Nat.le_trans (ih _) ?_
      unfold emS
      split <;> simp <;> omega
  refine Nat.le_trans (this _ _) ?_
  rw [List.length_nil, List.length_take]
  omega
theorem kmap_snoc (acc : List Int) (r z : Int) : kupd (kmap acc) r (.agg #[]) z = kmap (acc ++ [r]) z := by
  unfold kupd kmap
  by_cases e : z = r
  · subst e
    simp
  · simp [e]
/-- Numbers that were handed in, wherever they lie. -/
def Ra (w : World) (v : Value) (xs : List Int) : Prop := ∃ a c, v = .slice a xs.length c ∧ (0 < xs.length → ∃ g off, a = some ⟨g, off, none⟩ ∧ g < w.heap.size ∧ ∀ i r, xs[i]? = some r → w.cell? ⟨g, off + i, none⟩ = some (.int .i64 r))
theorem Ra.fm {w : World} {v : Value} {xs : List Int} (h : Ra w v xs) : ∃ a c, v = .slice a xs.length c := by
  obtain ⟨a, c, e, _⟩ := h
  exact ⟨a, c, e⟩
theorem Ra.keep0 {w w' : World} {v : Value} {xs : List Int} (h : Ra w v xs) (T : Touch [] w w') : Ra w' v xs := by
  obtain ⟨a, c, rfl, h1⟩ := h
  refine ⟨a, c, rfl, fun hp => ?_⟩
  obtain ⟨g, off, e, h2, h3⟩ := h1 hp
  exact ⟨g, off, e, Nat.lt_of_lt_of_le h2 T.size, fun i r hr => by rw [World.cell?_of_block (by exact T.block g h2 (by simp))]; exact h3 i r hr⟩
theorem Ra.at1 {w : World} {a : Option Addr} {n c i : Nat} {rs : List Int} {r : Int} (h : Ra w (.slice a n c) rs) (hi : rs[i]? = some r) : ∃ g off, a = some ⟨g, off, none⟩ ∧ w.cell? ⟨g, off + i, none⟩ = some (.int .i64 r) := by
  have hl := (List.getElem?_eq_some_iff.1 hi).1
  obtain ⟨a', c', e, h1⟩ := h
  cases e
  obtain ⟨g, off, e, _, h3⟩ := h1 (by omega)
  exact ⟨g, off, e, h3 i r hi⟩
/-- What stands between two runs that are asked for. -/
structure Em (w wr : World) (tb : Nat) (L : List Se) (acc : List Int) (a : Option Addr) (c : Nat) : Prop where
  t : Touch [] w wr
  mp : MapK KI wr tb acc.length (kmap acc)
  tl : w.heap.size ≤ tb
  row : wr.ownsRow w.heap.size 3 1 (.slice a acc.length c) acc.length (ints acc)
theorem Em.keep {w wr w' : World} {tb : Nat} {L : List Se} {acc : List Int} {a : Option Addr} {c : Nat} (h : Em w wr tb L acc a c) (T : Touch [] wr w') : Em w w' tb L acc a c := ⟨h.t.trans' T, h.mp.keep T (by simp), h.tl, own_touch h.row T (fun _ _ e => by cases e)⟩
theorem Em.lookK {w wr : World} {tb : Nat} {L : List Se} {acc : List Int} {a : Option Addr} {c : Nat} (h : Em w wr tb L acc a c) {t : Int} (ht : W64 t) : (Instr.lookup 58 (.map (some tb)) (.int .i64 t) true).run Try.prog wr = .ok (.tuple #[.agg #[], .bool (decide (t ∈ acc))]) wr := by
  have := h.mp.lookOk (t := 58) Try.underlying58 (zeroE wr) (k := t) ht
  unfold kmap at this
  by_cases e : t ∈ acc
  · rw [if_pos e] at this
    rw [decide_eq_true e]
    exact this
  · rw [if_neg e] at this
    rw [decide_eq_false e]
    exact this
theorem Em.put {w wr : World} {tb : Nat} {L : List Se} {acc : List Int} {a : Option Addr} {c : Nat} (h : Em w wr tb L acc a c) {t : Int} (ht : W64 t) (hn : ¬ t ∈ acc) (hl : acc.length < maxLen) : ∃ o, (Instr.mapUpdate 58 (.map (some tb)) (.int .i64 t) (.agg #[])).run Try.prog wr = .ok () (setBlock wr tb o) ∧ MapK KI (setBlock wr tb o) tb (acc.length + 1) (kmap (acc ++ [t])) ∧ Touch [] w (setBlock wr tb o) ∧ (setBlock wr tb o).ownsRow w.heap.size 3 1 (.slice a acc.length c) acc.length (ints acc) := by
  obtain ⟨o, o1, o2⟩ := h.mp.set (t := 58) Try.underlying58 hl (k := t) ht (.agg #[])
  have tb1 : Touch [tb] wr (setBlock wr tb o) := touch_setBlock (Touch.refl _ _) (Or.inl (by simp)) o
  have e : kmap acc t = none := by unfold kmap; rw [if_neg hn]
  rw [e] at o2
  simp only [Option.isSome_none, Bool.false_eq_true, if_false] at o2
  refine ⟨o, o1, o2.congr (fun z _ => kmap_snoc acc t z), h.t.trans tb1 (fun z hz => Or.inr (by simp at hz; rw [hz]; exact h.tl)), own_touch h.row tb1 (fun b hb e2 => ?_)⟩
  simp only [List.mem_singleton] at e2
  obtain ⟨cs, hc⟩ := own_kind h.row hb
  obtain ⟨es, cl, hm⟩ := h.mp.kind
  rw [e2, hm] at hc
  cases hc
set_option maxHeartbeats 8000000 in
set_option maxRecDepth 100000 in
theorem empty_ (w : World) (sp : Option Addr) (L : List Se) (rs : List Int) (v : Value) (HH : ∀ w', Touch [] w w' → ∀ n, W64 n → Calls Try.prog 33 #[.pointer sp, .agg #[.int .i64 1, .int .i64 n]] w' fun e w2 => e = .returned (.bool (decide (inL 1 n L ≠ []))) ∧ Touch [] w' w2)
    (hv : Ra w v rs) (hw : ∀ r ∈ rs, W64 r) (hl : rs.length ≤ 17592186043904) : Calls Try.prog 19 #[.pointer sp, v] w fun e w' => IlE e w w' (emq L rs) := by
  obtain ⟨av, cv, rfl⟩ := hv.fm
  obtain ⟨n, hn⟩ : ∃ n, n = rs.length := ⟨_, rfl⟩
  have HRS : Hid (∀ w', Touch [] w w' → ∀ i r, rs[i]? = some r → ∃ g off, av = some ⟨g, off, none⟩ ∧ w'.cell? ⟨g, off + i, none⟩ = some (.int .i64 r)) := hid (fun w' t i r hr => (hv.keep0 t).at1 hr)
  have HHH := hid HH
  have HWF := hid hw
  have HN := hid hn
  have HL := hid hl
  have hmm := @run_makeMap Try.prog
  have H0 : Hid (Em w (w.alloc (.map #[] 0)) w.heap.size L (emq L (rs.take 0)) none 0) := hid ⟨(Touch.refl _ _).alloc _, (mapK_made KI w).congr (fun _ _ => rfl), Nat.le_refl _, World.ownsRow_nil _ _ _ _⟩
  rw [← hn]
  clear hv HH hw hl hn
  obtain ⟨tb, htb⟩ : ∃ tb, tb = w.heap.size := ⟨_, rfl⟩
  obtain ⟨W0, hW0⟩ : ∃ W0, W0 = w.alloc (.map #[] 0) := ⟨_, rfl⟩
  rw [← htb, ← hW0] at H0
  go_enter Try.func19, Try.ntmps19
  go_upto_region 3 with fail
  rw [← htb, ← hW0]
  clear htb hW0 hmm
  go_wp2
  go_loopw [5, 14] (fun s5 s14 wr => ∃ (i : Nat) (a : Option Addr) (m c : Nat), s5 = .slice a m c ∧ s14 = .int .i64 (i : Int) ∧ i ≤ n ∧ Hid (m = (emq L (rs.take i)).length ∧ Em w wr tb L (emq L (rs.take i)) a c)) (fun _ s _ => n - (intOf s).toNat)
  case atStart => exact ⟨0, none, 0, 0, rfl, rfl, Nat.zero_le _, rfl, H0.out⟩
  case round =>
    clear H0
    obtain ⟨i, a, m, c, rfl, rfl, hi, HR⟩ := hrel
    by_cases hlt : i < n
    · have zi : (i : Int) < (n : Int) := by omega
      have zL : (n : Int) < 9223372036854775807 := by have := HL.out; have := HN.out; omega
      obtain ⟨r, hr⟩ : ∃ r, rs[i]? = some r := ⟨_, List.getElem?_eq_getElem (by have := HN.out; omega)⟩
      have hwr : W64 r := HWF.out r (List.mem_of_getElem? hr)
      obtain ⟨g, off, hg, e0⟩ := HRS.out wr HR.out.2.t i r hr
      subst hg
      have lk := HR.out.2.lookK hwr
      have HS := hid (emq_snoc (L := L) hr)
      have HLN : Hid ((emq L (rs.take i)).length ≤ i) := hid (emq_len L rs i)
      obtain ⟨acc, hacc⟩ : ∃ acc, acc = emq L (rs.take i) := ⟨_, rfl⟩
      rw [← hacc] at HR lk HS HLN
      have HI := hid (And.intro hi hlt)
      have HA : Hid (∀ ob, Em w (wr.alloc ob) tb L acc a c) := hid (fun ob => HR.out.2.keep ((Touch.refl _ _).alloc _))
      have HHC : Hid (∀ ob, Calls Try.prog 33 #[.pointer sp, .agg #[.int .i64 1, .int .i64 r]] (wr.alloc ob) fun e w2 => e = .returned (.bool (decide (inL 1 r L ≠ []))) ∧ Em w w2 tb L acc a c) := hid (fun ob => by
        refine (HHH.out _ (HA.out ob).t r hwr).mono ?_
        rintro e w2 ⟨rfl, t2⟩
        exact ⟨rfl, (HA.out ob).keep t2⟩)
      have HWR := hid hwr
      clear hr hwr hacc
      by_cases h1 : r ∈ acc
      · rw [decide_eq_true h1] at lk
        have HSS : Hid (emq L (rs.take (i + 1)) = acc) := hid (by rw [HS.out]; unfold emS; rw [if_neg (fun e => e.2 h1)])
        clear h1 HS HHC
        go_wp2
        go_roundw
        case rel => exact ⟨i + 1, a, m, c, rfl, by go_num, by have := HI.out; omega, by rw [HSS.out]; exact HR.out.1, by rw [HSS.out]; exact HA.out _⟩
        case measure => simp [intOf]; have := HI.out; omega
      · rw [decide_eq_false h1] at lk
        by_cases h2 : inL 1 r L = []
        · rw [decide_eq_false (fun e => e h2)] at HHC
          have HSS : Hid (emq L (rs.take (i + 1)) = acc ++ [r]) := hid (by rw [HS.out]; unfold emS; rw [if_pos ⟨h2, h1⟩])
          have H1 := hid h1
          clear h1 h2 HS
          go_upto_region 8 with (go_at_call 33; refine (HHC.out _).mono ?_; rintro e w2 ⟨rfl, q2⟩; have Q2 := hid q2; clear q2)
          obtain ⟨o, o1, o2, o3, o4⟩ := Q2.out.put HWR.out H1.out (by have := HLN.out; have := HI.out; have := HL.out; have := HN.out; unfold maxLen; omega)
          obtain ⟨W3, hW3⟩ : ∃ W3, W3 = setBlock w2 tb o := ⟨_, rfl⟩
          rw [← hW3] at o1 o2 o3 o4
          have HM : Hid (m = acc.length) := hid HR.out.1
          rw [← HM.out] at o2 o4
          have HX3 := hid (And.intro o2 (And.intro o3 o4))
          have HROW : Hid ((W3.alloc (.cells #[.int .i64 r] 3)).ownsRow w.heap.size 3 1 (.slice a m c) m (ints acc)) := hid (own_touch o4 ((Touch.refl [] _).alloc _) (fun _ _ e => by cases e))
          have HRW : Hid (Rs 3 1 (W3.alloc (.cells #[.int .i64 r] 3)) (.slice (some ⟨W3.heap.size, 0, none⟩) 1 1) 1 [.int .i64 r]) := hid (Rs.new W3 #[.int .i64 r] 3 1 rfl)
          have HT3 : Hid (Touch [] w (W3.alloc (.cells #[.int .i64 r] 3))) := hid (o3.alloc _)
          clear o2 o3 o4 lk
          go_upto_region 9 with fail
          rw [← hW3]
          clear hW3 o1
          go_wp2_with (at_builtin; refine wpList_append_rs rfl _ _ 23 3 rfl (.int .i64 0) 1 8 info3 Try.underlying23 rfl (by decide) w.heap.size (.slice a m c) m (ints acc) rfl HROW.out (.slice (some ⟨W3.heap.size, 0, none⟩) 1 1) 1 [.int .i64 r] rfl HRW.out (fun y hy => by simp only [List.mem_singleton] at hy; subst hy; rfl) (by have := HM.out; have := HLN.out; have := HI.out; have := HL.out; have := HN.out; unfold maxLen; omega) (by have := HM.out; have := HLN.out; have := HI.out; have := HL.out; have := HN.out; omega) HT3.out.size ?_; intro v5 w5 o5 g5 _; have t5 := touch_grown HT3.out g5 HROW.out (Nat.le_refl _); have tg : Touch (Value.slice a m c).ownBlock.toList (W3.alloc (.cells #[.int .i64 r] 3)) w5 := (Touch.refl _ _).grown g5 (fun q hq => Or.inl (by simp [hq])); have T5 := hid t5; have TG := hid tg; obtain ⟨a5, c5, e5⟩ := own_form o5; subst e5; have O5 := hid o5; clear o5 g5 t5 tg)
          go_roundw
          case rel =>
            refine ⟨i + 1, a5, m + 1, c5, rfl, by go_num, by have := HI.out; omega, ?_, ?_⟩
            · rw [HSS.out, List.length_append, HM.out]; rfl
            · rw [HSS.out]
              refine ⟨T5.out, ?_, Q2.out.tl, ?_⟩
              · have e1 : (acc ++ [r]).length = m + 1 := by rw [HM.out]; simp
                rw [e1]
                refine (HX3.out.1.keep ((Touch.refl [] _).alloc (.cells #[.int .i64 r] 3)) (by simp)).keep TG.out (fun e => ?_)
                obtain ⟨cs, hc⟩ := own_kind HROW.out (Option.mem_toList.1 e)
                obtain ⟨es, cl, hm⟩ := (HX3.out.1.keep ((Touch.refl [] _).alloc (.cells #[.int .i64 r] 3)) (by simp)).kind
                rw [hm] at hc
                cases hc
              · have e1 : (acc ++ [r]).length = m + 1 := by rw [HM.out]; simp
                rw [e1]
                have := O5.out
                unfold ints at this ⊢
                rw [List.map_append]
                exact this
          case measure => simp [intOf]; have := HI.out; omega
        · rw [decide_eq_true h2] at HHC
          have HSS : Hid (emq L (rs.take (i + 1)) = acc) := hid (by rw [HS.out]; unfold emS; rw [if_neg (fun e => h2 e.1)])
          clear h1 h2 HS
          go_wp2_with (go_at_call 33; refine (HHC.out _).mono ?_; rintro e w2 ⟨rfl, q2⟩; have Q2 := hid q2; clear q2)
          go_roundw
          case rel => exact ⟨i + 1, a, m, c, rfl, by go_num, by have := HI.out; omega, by rw [HSS.out]; exact HR.out.1, by rw [HSS.out]; exact Q2.out⟩
          case measure => simp [intOf]; have := HI.out; omega
    · have HZ : Hid (IlE (.returned (.slice a m c)) w wr (emq L rs)) := hid (by
        obtain ⟨e1, e2⟩ := HR.out
        have e3 := HN.out
        rw [List.take_of_length_le (by omega)] at e1 e2
        refine ⟨a, m, c, rfl, ?_, e2.t⟩
        have := e2.row
        rw [← e1] at this ⊢
        exact Rs.of_own this)
      have zi : (n : Int) ≤ (i : Int) := by omega
      clear HR hlt hi
      go_wp2
      go_ret
      exact HZ.out
end Go.Proofs.Ytlmmljmhfghlnaa
