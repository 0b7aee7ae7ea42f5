/- Maps keyed by whatever a program may key them by, as plain functions: what lookups, stores, deletes and the two steps of a compound assignment do; no conditions. -/
import Derived.Test.YtibgfkjhohgkhaaOwn
import Derived.DeepKeys4
import Derived.MapViews
import Derived.Maps.Range
import Derived.WideKeyEntry
import Derived.OpenShut
import Derived.ShutString
namespace Go.Proofs.Ytibgfkjhohgkhaa
open Go.RowKit Go.Maps Go.ChangeMaps Go.WideMaps
set_option linter.unusedVariables false
set_option linter.unusedSimpArgs false
/-- How plain keys lie in memory, and how they read. -/
structure KK (P : Program) (kt : TypeId) (K : Type) where
  ok : K → Prop
  kv : K → Value
  lit : K → Lit
  keyed : Keyed P kt
  key : ∀ {x}, ok x → keyOf P kt (kv x) = some (lit x)
  inj : ∀ {x y}, ok x → ok y → lit x = lit y → x = y
section
variable {P : Program} {kt : TypeId} {K : Type} (c : KK P kt K)
structure Dm (D : DataW Value) (f : K → Option Value) : Prop where
  at_ : ∀ k, c.ok k → Maps.has D (c.lit k) = (f k).isSome ∧ ∀ z, D.atKey (c.lit k) (.held z) = .held ((f k).getD z)
  dom : ∀ l, Maps.has D l = true → ∃ k, c.ok k ∧ l = c.lit k
def MapK (w : World) (b n : Nat) (f : K → Option Value) : Prop := ∃ D : DataW Value, w.ownsMap P kt HR b n D ∧ Maps.size D = n ∧ Dm c D f
def kupd [DecidableEq K] (f : K → Option Value) (k : K) (v : Value) : K → Option Value := fun j => if j = k then some v else f j
def kdel [DecidableEq K] (f : K → Option Value) (k : K) : K → Option Value := fun j => if j = k then none else f j
theorem KK.isKey {x : K} (h : c.ok x) : WideAt.IsKeyLit (c.lit x) := c.keyed.key (c.key h)
theorem KK.ne {x y : K} (hx : c.ok x) (hy : c.ok y) (h : x ≠ y) : c.lit x ≠ c.lit y := fun e => h (c.inj hx hy e)
variable {c} {w w' : World} {b n : Nat} {f g : K → Option Value} {t e : TypeId}
theorem MapK.kept (h : MapK c w b n f) (hk : w'.heap[b]? = w.heap[b]?) : MapK c w' b n f := by
  obtain ⟨D, ⟨es, cl, hb, r⟩, h2, h3⟩ := h
  exact ⟨D, ⟨es, cl, hk.trans hb, r⟩, h2, h3⟩
theorem MapK.kind (h : MapK c w b n f) : ∃ es cl, w.heap[b]? = some (.map es cl) := by
  obtain ⟨D, ⟨es, cl, hb, _⟩, _⟩ := h
  exact ⟨es, cl, hb⟩
theorem MapK.lt (h : MapK c w b n f) : b < w.heap.size := by
  obtain ⟨es, cl, hb⟩ := h.kind
  exact block_lt hb
theorem MapK.keep {F : List Nat} (h : MapK c w b n f) (T : Touch F w w') (hb : ¬ b ∈ F) : MapK c w' b n f := h.kept (T.block b h.lt hb)
theorem MapK.congr (h : MapK c w b n f) (hf : ∀ k, c.ok k → f k = g k) : MapK c w b n g := by
  obtain ⟨D, h1, h2, h3⟩ := h
  exact ⟨D, h1, h2, fun k hk => by rw [← hf k hk]; exact h3.at_ k hk, h3.dom⟩
theorem mapK_made (c : KK P kt K) (w : World) : MapK c (w.alloc (.map #[] 0)) w.heap.size 0 (fun _ => none) :=
  ⟨.map [], World.ownsMap_made _ _ _ _, rfl, fun k hk => ⟨by simp [Maps.has_eq], fun z => by simp [DataW.atKey]⟩, fun l hl => by simp [Maps.has_eq] at hl⟩
theorem MapK.look (h : MapK c w b n f) (ht : P.underlying t = some (.map kt e)) {z : Value} (hz : (zeroValue e).run P w = .ok z w) {k : K} (hk : c.ok k) :
    (Instr.lookup t (.map (some b)) (c.kv k) false).run P w = .ok ((f k).getD z) w := by
  obtain ⟨D, h1, h2, h3⟩ := h
  obtain ⟨v, ps, hr, hv⟩ := h1.lookup c.keyed ht hz (zd := .held z) (zp := []) rfl (c.key hk)
  rw [(h3.at_ k hk).2 z] at hv
  simp only [HR, Option.some.injEq, Prod.mk.injEq, DataW.held.injEq] at hv
  rw [hr, hv.1]
theorem MapK.lookOk (h : MapK c w b n f) (ht : P.underlying t = some (.map kt e)) {z : Value} (hz : (zeroValue e).run P w = .ok z w) {k : K} (hk : c.ok k) :
    (Instr.lookup t (.map (some b)) (c.kv k) true).run P w = .ok (.tuple #[(f k).getD z, .bool (f k).isSome]) w := by
  obtain ⟨D, h1, h2, h3⟩ := h
  obtain ⟨v, ps, hr, hv⟩ := h1.look_ok c.keyed ht hz (zd := .held z) (zp := []) rfl (c.key hk)
  rw [(h3.at_ k hk).2 z] at hv
  simp only [HR, Option.some.injEq, Prod.mk.injEq, DataW.held.injEq] at hv
  rw [hr, hv.1, (h3.at_ k hk).1]
theorem MapK.len (h : MapK c w b n f) (ht : P.underlying t = some (.map kt e)) (ty : TypeId) : (Builtin.len_ #[t] ty #[.map (some b)]).run P w = .ok (.int .i64 n) w := by
  obtain ⟨D, h1, h2, h3⟩ := h
  rw [h1.len ht ty, h2]
theorem look_nil (c : KK P kt K) (ht : P.underlying t = some (.map kt e)) {z : Value} (hz : (zeroValue e).run P w = .ok z w) {k : K} (hk : c.ok k) :
    (Instr.lookup t (.map none) (c.kv k) false).run P w = .ok z w := Maps.look_nil false c.keyed ht hz (c.key hk)
theorem own_tight {D : DataW Value} {m : Nat} (h : w.ownsMap P kt HR b m D) : w.ownsMap P kt HR b (Maps.size D) D := by
  obtain ⟨es1, cl1, hb1, F1, hs1, hD1⟩ := h
  refine ⟨es1, cl1, hb1, F1, ?_, hD1⟩
  have e1 : Maps.size (DataW.map ((es1.toList.map (WideElems.rg P kt HR)).foldr DataW.insert [])) = es1.size := by simp [Maps.size, length_sorted]
  rw [← hD1] at e1
  omega
theorem Dm.put [DecidableEq K] {D : DataW Value} (h : Dm c D f) (hT : Tidy D) {k : K} (hk : c.ok k) (v : Value) : Dm c (D.put (c.lit k) (.held v)) (kupd f k v) := by
  refine ⟨fun j hj => ?_, fun l hl => ?_⟩
  · by_cases hjk : j = k
    · subst hjk
      refine ⟨by rw [has_put_same hT.isMap (c.isKey hj)]; simp [kupd], fun z => ?_⟩
      rw [atKey_put_same hT.isMap (c.isKey hj)]
      simp [kupd]
    · refine ⟨by rw [has_put_other (c.ne hj hk hjk), (h.at_ j hj).1]; simp [kupd, hjk], fun z => ?_⟩
      rw [atKey_put_other (c.ne hj hk hjk), (h.at_ j hj).2]
      simp [kupd, hjk]
  · by_cases e : l = c.lit k
    · exact ⟨k, hk, e⟩
    · rw [has_put_other e] at hl
      exact h.dom l hl
theorem Dm.del [DecidableEq K] {D : DataW Value} (h : Dm c D f) {k : K} (hk : c.ok k) : Dm c (D.del (c.lit k)) (kdel f k) := by
  refine ⟨fun j hj => ?_, fun l hl => ?_⟩
  · by_cases hjk : j = k
    · subst hjk
      refine ⟨by rw [has_del_same]; simp [kdel], fun z => ?_⟩
      rw [atKey_del_same]
      simp [kdel]
    · refine ⟨by rw [has_del_other (c.ne hj hk hjk), (h.at_ j hj).1]; simp [kdel, hjk], fun z => ?_⟩
      rw [atKey_del_other (c.ne hj hk hjk), (h.at_ j hj).2]
      simp [kdel, hjk]
  · by_cases e : l = c.lit k
    · rw [e, has_del_same] at hl; cases hl
    · rw [has_del_other e] at hl
      exact h.dom l hl
theorem MapK.set [DecidableEq K] (h : MapK c w b n f) (ht : P.underlying t = some (.map kt e)) (hn : n < maxLen) {k : K} (hk : c.ok k) (v : Value) :
    ∃ o, (Instr.mapUpdate t (.map (some b)) (c.kv k) v).run P w = .ok () (setBlock w b o) ∧ MapK c (setBlock w b o) b (if (f k).isSome then n else n + 1) (kupd f k v) := by
  obtain ⟨D, h1, h2, h3⟩ := h
  obtain ⟨w', hr, h4, es, cl, es', cl', hb, rfl⟩ := h1.store c.keyed ht hn (c.key hk) (show HR v = some (.held v, []) from rfl)
  have hT := h1.tidy c.keyed
  have hs : Maps.size (D.put (c.lit k) (.held v)) = if (f k).isSome then n else n + 1 := by
    rw [size_put hT, (h3.at_ k hk).1, h2]
  exact ⟨_, hr, D.put (c.lit k) (.held v), hs ▸ own_tight h4, hs, h3.put hT hk v⟩
theorem MapK.del [DecidableEq K] (h : MapK c w b n f) (ht : P.underlying t = some (.map kt e)) {k : K} (hk : c.ok k) (ty : TypeId) :
    ∃ o, (Builtin.delete_ #[t, kt] ty #[.map (some b), c.kv k]).run P w = .ok (.tuple #[]) (setBlock w b o) ∧ MapK c (setBlock w b o) b (if (f k).isSome then n - 1 else n) (kdel f k) := by
  obtain ⟨D, h1, h2, h3⟩ := h
  obtain ⟨w', hr, h4, es, cl, es', cl', hb, rfl⟩ := h1.drop c.keyed ht (c.key hk) ty
  have hT := h1.tidy c.keyed
  have hs : Maps.size (D.del (c.lit k)) = if (f k).isSome then n - 1 else n := by
    have := size_del hT (k := c.lit k)
    rw [(h3.at_ k hk).1, h2] at this
    split at this <;> simp_all <;> omega
  exact ⟨_, hr, D.del (c.lit k), hs ▸ own_tight h4, hs, h3.del hk⟩
/-- Where a stamp stands. -/
theorem idx_born {l : List MapEntry} : ∀ {j : Nat} {x : MapEntry}, (l.map (·.born)).Nodup → l[j]? = some x → l.findIdx? (fun e => ((e.born : Nat) : Int) == ((x.born : Nat) : Int)) = some j := by
  intro j x hn h
  exact WideElems.findIdx_born hn h
/-- The two steps of m[k] = v where it is one of several, or of m[k] op= v: the entry is laid, then its value. -/
theorem MapK.entry [DecidableEq K] (h : MapK c w b n f) (ht : P.underlying t = some (.map kt e)) (hn : n < maxLen) {z : Value} (hz : ∀ u : World, (zeroValue e).run P u = .ok z u) {k : K} (hk : c.ok k) :
    ∃ (st : Nat) (o : Obj), (Instr.mapEntry t (.map (some b)) (c.kv k)).run P w = .ok (.tuple #[(f k).getD z, .int .i64 (st : Nat)]) (setBlock w b o) ∧ MapK c (setBlock w b o) b (if (f k).isSome then n else n + 1) (kupd f k ((f k).getD z)) ∧
      ∀ (w2 : World) (v : Value), w2.heap[b]? = some o → ∃ o2, (Instr.entryStore t (.map (some b)) (.int .i64 (st : Nat)) v).run P w2 = .ok () (setBlock w2 b o2) ∧ MapK c (setBlock w2 b o2) b (if (f k).isSome then n else n + 1) (kupd f k v) := by
  have hset := fun v => h.set ht hn hk v
  have hlook := h.look ht (hz w) hk
  obtain ⟨D, ⟨es, cl, hb, F, hs, hD⟩, h2, h3⟩ := h
  have hlt := block_lt hb
  obtain ⟨s1, s2, _⟩ := F.stamped
  have fin : ∀ (w2 : World) (v : Value) (es' : Array MapEntry) (cl' : Nat), b < w2.heap.size → (Instr.mapUpdate t (.map (some b)) (c.kv k) v).run P w = .ok () (setBlock w b (.map es' cl')) → MapK c (setBlock w2 b (.map es' cl')) b (if (f k).isSome then n else n + 1) (kupd f k v) := fun w2 v es' cl' hlt2 hr => by
    obtain ⟨o, hr', hm⟩ := hset v
    rw [hr] at hr'
    simp only [Result.ok.injEq, true_and] at hr'
    rw [← hr'] at hm
    refine hm.kept ?_
    simp only [setBlock, Array.getElem?_setIfInBounds, if_true, hlt, hlt2]
  rcases c.keyed.find w (c.key hk) es.toList F.keys with ⟨q1, q2⟩ | ⟨j, x, q1, q2, q3⟩
  · have hup : ∀ v, (Instr.mapUpdate t (.map (some b)) (c.kv k) v).run P w = .ok () (setBlock w b (.map (es.push ⟨c.kv k, v, cl⟩) (cl + 1))) := fun v => by
      simp [Instr.mapUpdate, run_underlying ht, MapKept.run_getObj_map hb, c.keyed.check w false (c.key hk), q1, MapKept.run_setObj_map _ hb, Result.andThen, setBlock]
    have ez : (f k).getD z = z := by
      have hl : (Instr.lookup t (.map (some b)) (c.kv k) false).run P w = .ok z w := by
        simp [Instr.lookup, run_underlying ht, MapKept.run_getObj_map hb, c.keyed.check w _ (c.key hk), q1, hz, Result.andThen]
      rw [hl] at hlook
      simp only [Result.ok.injEq, and_true] at hlook
      exact hlook.symm
    rw [ez]
    refine ⟨cl, .map (es.push ⟨c.kv k, z, cl⟩) (cl + 1), by simp [Instr.mapEntry, run_underlying ht, MapKept.run_getObj_map hb, c.keyed.check w false (c.key hk), q1, hz, MapKept.run_setObj_map _ hb, Result.andThen, setBlock, goInt], fin w z _ _ hlt (hup z), fun w2 v hw2 => ⟨.map (es.push ⟨c.kv k, v, cl⟩) (cl + 1), ?_, fin w2 v _ _ (block_lt hw2) (hup v)⟩⟩
    have hi : (es.push ⟨c.kv k, z, cl⟩).findIdx? (fun e => ((e.born : Nat) : Int) == ((cl : Nat) : Int)) = some es.size := by
      rw [WideElems.findIdx_arr]
      refine idx_born (x := ⟨c.kv k, z, cl⟩) ?_ (by simp)
      simp only [Array.toList_push, List.map_append, List.map_cons, List.map_nil]
      refine List.nodup_append.2 ⟨s2, by simp, fun a ha d hd e1 => ?_⟩
      simp only [List.mem_singleton] at hd
      obtain ⟨y, hy, rfl⟩ := List.mem_map.1 ha
      have := s1 y hy
      omega
    have hm : (es.push ⟨c.kv k, z, cl⟩).modify es.size (fun e => { e with val := v }) = es.push ⟨c.kv k, v, cl⟩ := by
      apply Array.ext'
      rw [Array.toList_modify, Array.toList_push, Array.toList_push, ← Array.length_toList, WideElems.modify_last]
    simp [Instr.entryStore, MapKept.run_getObj_map hw2, asInt, asIntOf, goInt, hi, hm, MapKept.run_setObj_map _ hw2, Result.andThen, setBlock]
  · have hj : es[j]? = some x := by simpa using q2
    have hsame : es.modify j (fun e => { e with key := c.kv k }) = es := by
      apply Array.ext'
      rw [Array.toList_modify, ChangeMaps.modify_eq_set _ _ _ _ q2, show ({ x with key := c.kv k } : MapEntry) = x by rw [← q3]]
      exact WideElems.set_self _ _ _ q2
    have hup : ∀ v, (Instr.mapUpdate t (.map (some b)) (c.kv k) v).run P w = .ok () (setBlock w b (.map (es.modify j (fun e' => { e' with key := c.kv k, val := v })) cl)) := fun v => by
      simp [Instr.mapUpdate, run_underlying ht, MapKept.run_getObj_map hb, c.keyed.check w false (c.key hk), q1, hj, q3, c.keyed.stays w (c.key hk), MapKept.run_setObj_map _ hb, Result.andThen, setBlock]
    have hself : es.modify j (fun e' => { e' with key := c.kv k, val := x.val }) = es := by
      apply Array.ext'
      rw [Array.toList_modify, ChangeMaps.modify_eq_set _ _ _ _ q2, show ({ x with key := c.kv k, val := x.val } : MapEntry) = x by rw [← q3]]
      exact WideElems.set_self _ _ _ q2
    have ez : (f k).getD z = x.val := by
      have hl : (Instr.lookup t (.map (some b)) (c.kv k) false).run P w = .ok x.val w := by
        simp [Instr.lookup, run_underlying ht, MapKept.run_getObj_map hb, c.keyed.check w _ (c.key hk), q1, hz, Result.andThen]
      rw [hl] at hlook
      simp only [Result.ok.injEq, and_true] at hlook
      exact hlook.symm
    rw [ez]
    have hfs := fin w x.val _ _ hlt (hup x.val)
    rw [hself] at hfs
    refine ⟨x.born, .map es cl, ?_, hfs, fun w2 v hw2 => ⟨.map (es.modify j (fun e' => { e' with key := c.kv k, val := v })) cl, ?_, fin w2 v _ _ (block_lt hw2) (hup v)⟩⟩
    · simp [Instr.mapEntry, run_underlying ht, MapKept.run_getObj_map hb, c.keyed.check w false (c.key hk), q1, hj, q3, c.keyed.stays w (c.key hk), hsame, MapKept.run_setObj_map _ hb, Result.andThen, setBlock, goInt]
    · have hi : es.findIdx? (fun e => ((e.born : Nat) : Int) == ((x.born : Nat) : Int)) = some j := by
        rw [WideElems.findIdx_arr]
        exact idx_born s2 q2
      have hm : es.modify j (fun e => { e with val := v }) = es.modify j (fun e' => { e' with key := c.kv k, val := v }) := by
        apply Array.ext'
        rw [Array.toList_modify, Array.toList_modify, ChangeMaps.modify_eq_set _ _ _ _ q2, ChangeMaps.modify_eq_set _ _ _ _ q2, ← q3]
      simp [Instr.entryStore, MapKept.run_getObj_map hw2, asInt, asIntOf, goInt, hi, hm, MapKept.run_setObj_map _ hw2, Result.andThen, setBlock]
theorem MapK.copy (h : MapK c w b n f) : ∃ es cl, w.heap[b]? = some (.map es cl) ∧ MapK c (w.alloc (.map es cl)) w.heap.size n f := by
  obtain ⟨D, ⟨es, cl, hb, r⟩, h2, h3⟩ := h
  exact ⟨es, cl, hb, D, ⟨es, cl, heap_alloc_new w _, r⟩, h2, h3⟩
end
section
variable {kt : TypeId} {K : Type} {c : KK Try.prog kt K} (w : World) {ops : Array Oper} {rest : List Oper} {o : Oper} {a : Act} {Q : Exit → Act → World → Prop}
theorem wpList_klen (hg : o.guard = none) (m : Operand) (t : TypeId) (hop : o.op = Op.call { callee := Callee.builtin Builtin.len, args := #[m], argTypes := #[t] })
    (e : TypeId) (ht : Try.prog.underlying t = some (.map kt e)) (b n : Nat) (f : K → Option Value) (hm : a.eval m = .map (some b)) (hown : MapK c w b n f)
    (hK : wpList Try.prog ops Q rest (a.put o.dst (.int .i64 n)) w) : wpList Try.prog ops Q (o :: rest) a w := by
  obtain ⟨D, h1, h2, h3⟩ := hown
  refine wpList_len_own w hg m t hop kt e ht HR b n D hm h1 ?_
  rw [h2]
  exact hK
theorem wpList_kdel [DecidableEq K] (hg : o.guard = none) (m x : Operand) (t : TypeId) (hop : o.op = Op.call { callee := Callee.builtin Builtin.delete, args := #[m, x], argTypes := #[t, kt] })
    (e : TypeId) (ht : Try.prog.underlying t = some (.map kt e)) (b n : Nat) (f : K → Option Value) (hm : a.eval m = .map (some b)) (hown : MapK c w b n f)
    (k : K) (hx : a.eval x = c.kv k) (hk : c.ok k)
    (hK : ∀ ob, MapK c (setBlock w b ob) b (if (f k).isSome then n - 1 else n) (kdel f k) → wpList Try.prog ops Q rest (a.put o.dst (.tuple #[])) (setBlock w b ob)) : wpList Try.prog ops Q (o :: rest) a w := by
  refine wpList_plain hg fun K' hK' => ?_
  obtain ⟨ob, hrun, h2⟩ := hown.del ht hk o.type
  unfold Oper.wp
  simp [execOp, hop, resolve, invoke, builtin, hm, hx, hrun, Result.andThen]
  exact hK' _ _ (hK ob h2)
theorem wpList_kset [DecidableEq K] (hg : o.guard = none) (m x y : Operand) (t : TypeId) (hop : o.op = Op.mapUpdate t m x y)
    (e : TypeId) (ht : Try.prog.underlying t = some (.map kt e)) (b n : Nat) (f : K → Option Value) (hm : a.eval m = .map (some b)) (hown : MapK c w b n f) (hn : n < maxLen)
    (k : K) (hx : a.eval x = c.kv k) (hk : c.ok k) (v : Value) (hy : a.eval y = v)
    (hK : ∀ ob, MapK c (setBlock w b ob) b (if (f k).isSome then n else n + 1) (kupd f k v) → wpList Try.prog ops Q rest (a.put o.dst undef) (setBlock w b ob)) : wpList Try.prog ops Q (o :: rest) a w := by
  refine wpList_plain hg fun K' hK' => ?_
  obtain ⟨ob, hrun, h2⟩ := hown.set ht hn hk v
  unfold Oper.wp
  simp [execOp, hop, hm, hx, hy, hrun, Result.andThen]
  exact hK' _ _ (hK ob h2)
end
/-- Whole numbers as keys. -/
def KI : KK Try.prog 3 Int := ⟨W64, fun k => .int .i64 k, fun k => .int .i64 k, keyed3, key3, fun _ _ e => by injection e⟩
/-- Keys of the program's. -/
abbrev K := Int × ByteArray
def Ok (x : K) : Prop := (Lit.int .u16 x.1).wf = true ∧ x.2.size ≤ maxLen
def kv (x : K) : Value := .agg #[.int .u16 x.1, .string x.2]
def datK (x : K) : DataW Unit := .agg [.lit (.int .u16 x.1), .lit (.string x.2.data.toList)]
def klit (x : K) : Lit := (datK x).asKey
theorem cellsK : Try.prog.cellsOf 63 = 2 := by kernel_rfl
theorem shut_key {H : Type} {enc : TypeId × Value → H} {W : World} {base : Nat} {sp : Nat → Bool} {held : Bool} {a : Int} {s : ByteArray} (wa : (Lit.int .u16 a).wf = true) (ws : s.size ≤ maxLen) :
    DataW.Trod enc Try.prog W base sp held 63 (.agg #[.int .u16 a, .string s]) (.agg [.lit (.int .u16 a), .lit (.string s.data.toList)]) [] :=
  Joins.shut_agg2 (y0 := (.lit (.int .u16 a), [])) (y1 := (.lit (.string s.data.toList), [])) Try.underlying63 (by kernel_rfl) cellsK ⟨1, by simp [DataW.trod, Try.underlying61, wa]⟩ ⟨1, by simp [DataW.trod, Try.underlying9, ws]⟩
theorem wideK : (match Try.prog.underlying 63 with | some (.array _ _) | some (.struct _) => true | _ => false) = true := by kernel_rfl
theorem deepK : Try.prog.keyTypeAt (Try.prog.types.size + 1) 63 = true := by kernel_rfl
theorem formedK (a : Int) (s : ByteArray) : (Value.agg #[.int .u16 a, .string s]).formed Try.prog 63 = true := by
  simp [Value.formed, Try.underlying63, cellsK]
set_option maxRecDepth 100000 in
theorem lawK : KeyLaw Try.prog 63 := deep_law_laid (by kernel_rfl) (m := 2) (by omega) (of_decide_eq_true (by kernel_rfl)) (by kernel_rfl) wideK
theorem keyedK : Keyed Try.prog 63 := Keyed.of_law lawK
set_option maxRecDepth 100000 in
theorem keyK {x : K} (h : Ok x) : keyOf Try.prog 63 (kv x) = some (klit x) :=
  (keyOf_asKey (enc := fun _ => ()) (w := default) (base := 0) (sp := fun _ => true) (held := true) deepK wideK (formedK _ _) (shut_key h.1 h.2)).1
theorem klit_inj {x y : K} (hx : Ok x) (hy : Ok y) (e : klit x = klit y) : x = y := by
  have h1 := keyK hx
  have h2 := keyK hy
  rw [← e] at h2
  have h3 := lawK.inj h1 h2
  simp only [kv, Value.agg.injEq, Array.mk.injEq, List.cons.injEq, Value.int.injEq, Value.string.injEq, and_true, true_and] at h3
  exact Prod.ext h3.1 h3.2
def KC : KK Try.prog 63 K := ⟨Ok, kv, klit, keyedK, keyK, klit_inj⟩
end Go.Proofs.Ytibgfkjhohgkhaa
