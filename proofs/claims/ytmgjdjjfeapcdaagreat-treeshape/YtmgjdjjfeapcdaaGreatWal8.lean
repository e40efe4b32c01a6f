/- package wal: find -/
import Derived.Test.YtmgjdjjfeapcdaaGreatMgAB
namespace Go.Proofs.YtmgjdjjfeapcdaaGreat
open Go.RowKit Go.Lib
attribute [local go_sem ↓] Go.wp_at_zero Go.wp_at_succ
def frT (log:List UInt8) (i:Nat):ByteArray:=⟨((log.drop (64+1028 * i)).take 4).toArray⟩
def frN (log:List UInt8) (i:Nat):Nat:=numB (frT log i) 0
def fndM (log:List UInt8) (F:Int→Option Int):Nat→Int→Option Int
  | 0=>F
  | i+1=>updM (fndM log F i) (frN log i) i
end Go.Proofs.YtmgjdjjfeapcdaaGreat
